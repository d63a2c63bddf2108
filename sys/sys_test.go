package sys_test

import (
	"bytes"
	"math"
	"reflect"
	"strings"
	"testing"

	"levee/api"
	"levee/disk"
	"levee/fsck"
	"levee/sys"
	"levee/vol"
)

// shape is that of most volumes here: a group has 16 blocks, of which 13 are data, and 8 slots.
func shape(groups int) api.Geo {
	return api.Geo{Group: 16, Inodes: 8, Groups: groups}
}

// size is how many blocks a disk needs for it.
func size(groups int) int {
	return 2 + 16*groups
}

// up is a machine with a new volume of so many groups, on a disk with room for more.
func up(t *testing.T, groups, most int) *sys.Sys {
	t.Helper()
	s, e := sys.New(size(most), shape(groups))
	if e != api.OK {
		t.Fatal("New", e)
	}
	return s
}

// load is a machine that is down, with these bytes.
func load(t *testing.T, image []byte) *sys.Sys {
	t.Helper()
	s, e := sys.Load(image)
	if e != api.OK || s.Up() {
		t.Fatal("Load", e)
	}
	return s
}

// answers holds what comes of an event.
func answers(t *testing.T, s *sys.Sys, e sys.Event, want sys.Answer) {
	t.Helper()
	if a := s.Do(e); !same(a, want) {
		t.Errorf("%v: %v, not %v", e, a, want)
	}
}

// refused holds that an event comes to nothing but an error, and changes nothing.
func refused(t *testing.T, s *sys.Sys, e sys.Event, want api.Errno) {
	t.Helper()
	was := state(s)
	if a := s.Do(e); !reflect.DeepEqual(a, sys.Answer{Errno: want}) {
		t.Errorf("%v: %v, not %d alone", e, a, want)
	}
	if !reflect.DeepEqual(state(s), was) {
		t.Errorf("%v was refused, and changed something", e)
	}
}

// state is all that a machine tells without an event.
func state(s *sys.Sys) []any {
	blocks, slots := s.Free()
	return []any{s.Up(), s.Geo(), blocks, slots, string(s.Image()), s.Busy()}
}

// does lets events happen that are all done.
func does(t *testing.T, s *sys.Sys, all ...sys.Event) {
	t.Helper()
	for i, e := range all {
		if a := s.Do(e); a.Errno != api.OK {
			t.Fatalf("event %d, %v: %v", i, e, a)
		}
	}
}

// goes lets the power go, and come again, with none of what was not safe.
func goes(t *testing.T, s *sys.Sys) {
	t.Helper()
	does(t, s, sys.Event{Kind: sys.Crash}, sys.Event{Kind: sys.Repair}, sys.Event{Kind: sys.Mount})
}

// file makes a file with so many bytes, open by a number.
func file(t *testing.T, s *sys.Sys, path string, fd, n int) {
	t.Helper()
	does(t, s, sys.Event{Kind: sys.Create, A: path})
	answers(t, s, sys.Event{Kind: sys.Open, A: path}, sys.Answer{N: int64(fd)})
	does(t, s, sys.Event{Kind: sys.Write, Fd: fd, Data: bytes.Repeat([]byte("x"), n)})
}

// kinds is one event of each kind, that could be done by a machine that is up, or is down.
func kinds() []sys.Event {
	all := []sys.Event{{Kind: sys.Create, A: "/n"}, {Kind: sys.Mkdir, A: "/n"}, {Kind: sys.Symlink, A: "/n", B: "a"}, {Kind: sys.Link, A: "/f", B: "/n"}}
	for kind := sys.Unlink; kind <= sys.Mount; kind++ {
		all = append(all, sys.Event{Kind: kind, A: "/f", B: "/n", N: 1})
	}
	return all
}

// P29.1: the kinds are numbers from 1 to 29, in this order.
func TestKinds(t *testing.T) {
	all := []int{sys.Create, sys.Mkdir, sys.Symlink, sys.Link, sys.Unlink, sys.Rmdir, sys.Rename, sys.Readlink, sys.Stat, sys.Lstat, sys.Readdir, sys.Open, sys.Close, sys.Read, sys.Write,
		sys.Truncate, sys.Fstat, sys.Fsync, sys.Sync, sys.Back, sys.Flush, sys.Grow, sys.Shrink, sys.Defrag, sys.Step, sys.Stop, sys.Crash, sys.Repair, sys.Mount}
	for i, kind := range all {
		if kind != i+1 {
			t.Errorf("the kind %d is %d", i+1, kind)
		}
	}
	if len(all) != 29 {
		t.Error(len(all), "kinds")
	}
}

// P29.1: New has disk.New's errors, and vol.Format's; else the machine is up, with a fresh volume.
func TestNew(t *testing.T) {
	for _, c := range []struct {
		blocks int
		g      api.Geo
		want   api.Errno
	}{
		{0, shape(1), api.ErrArg}, {-1, shape(1), api.ErrArg}, {4097, shape(1), api.ErrArg}, {math.MaxInt, shape(1), api.ErrArg}, {math.MinInt, api.Geo{}, api.ErrArg},
		{100, api.Geo{}, api.ErrArg}, {100, shape(0), api.ErrArg}, {100, shape(-1), api.ErrArg}, {4096, shape(17), api.ErrArg}, {100, api.Geo{Group: 15, Inodes: 8, Groups: 1}, api.ErrArg},
		{100, api.Geo{Group: 16, Inodes: 7, Groups: 1}, api.ErrArg}, {100, api.Geo{Group: math.MaxInt, Inodes: math.MaxInt, Groups: math.MaxInt}, api.ErrArg}, {1, api.Geo{}, api.ErrArg},
		{size(2) - 1, shape(2), api.ErrSize}, {1, shape(1), api.ErrSize}, {4096, api.Geo{Group: 128, Inodes: 64, Groups: 16}, api.OK}, {size(2), shape(2), api.OK}, {size(1) + 1, shape(1), api.OK},
	} {
		s, e := sys.New(c.blocks, c.g)
		if e != c.want || (s == nil) != (e != api.OK) {
			t.Errorf("New(%d, %v): %v, %d, not %d", c.blocks, c.g, s, e, c.want)
			continue
		}
		if e != api.OK {
			continue
		}
		d, _ := disk.New(c.blocks)
		vol.Format(d, c.g)
		blocks, slots := s.Free()
		if !s.Up() || s.Busy() || s.Geo() != c.g || blocks != c.g.Groups*(c.g.Group-1-c.g.Inodes/4) || slots != c.g.Groups*c.g.Inodes-2 || !bytes.Equal(s.Image(), d.Bytes()) {
			t.Errorf("New(%d, %v): %t, %t, %v, %d, %d", c.blocks, c.g, s.Up(), s.Busy(), s.Geo(), blocks, slots)
		}
		answers(t, s, sys.Event{Kind: sys.Stat, A: "/"}, sys.Answer{Stat: api.Stat{Id: 1, Kind: api.Dir, Links: 1}})
		answers(t, s, sys.Event{Kind: sys.Crash}, sys.Answer{})
		answers(t, s, sys.Event{Kind: sys.Repair}, sys.Answer{})
	}
}

// P29.1: Load has disk.Load's error; else the machine is down, and has these bytes, which it does not keep.
func TestLoad(t *testing.T) {
	for _, n := range []int{0, 1, 255, 257, 511, 256*4096 + 1, 256 * 4097} {
		if s, e := sys.Load(make([]byte, n)); s != nil || e != api.ErrArg {
			t.Errorf("Load of %d bytes: %v, %d", n, s, e)
		}
	}
	if s, e := sys.Load(nil); s != nil || e != api.ErrArg {
		t.Errorf("Load of nothing: %v, %d", s, e)
	}
	image := up(t, 2, 2).Image()
	was := bytes.Clone(image)
	s := load(t, image)
	for i := range image {
		image[i] = 0xee
	}
	if !bytes.Equal(s.Image(), was) || s.Busy() || s.Geo() != (api.Geo{}) {
		t.Error("Load keeps its bytes")
	}
	answers(t, s, sys.Event{Kind: sys.Mount}, sys.Answer{})
	if !s.Up() || s.Geo() != shape(2) {
		t.Error("Mount", s.Geo())
	}
	for _, n := range []int{1, 4096} {
		s := load(t, make([]byte, n*256))
		if len(s.Image()) != n*256 {
			t.Errorf("%d blocks", n)
		}
	}
}

// P29.1, P29.2: a nil machine, and any event.
func TestNil(t *testing.T) {
	var s *sys.Sys
	for kind := -1; kind <= sys.Mount+1; kind++ {
		if a := s.Do(sys.Event{Kind: kind, A: "/", Pick: []int{1}}); !reflect.DeepEqual(a, sys.Answer{Errno: api.ErrNil}) {
			t.Errorf("Do of nil, %d: %v", kind, a)
		}
	}
	blocks, slots := s.Free()
	if s.Up() || s.Busy() || s.Geo() != (api.Geo{}) || blocks != 0 || slots != 0 || len(s.Image()) != 0 {
		t.Error("a nil machine tells something")
	}
}

// A machine that nothing made has no disk, and comes to nothing.
func TestNone(t *testing.T) {
	var s sys.Sys
	for _, e := range kinds() {
		if a := s.Do(e); a.Errno == api.OK && e.Kind != sys.Stop && e.Kind != sys.Crash || a.N != 0 {
			t.Errorf("%v: %v", e, a)
		}
	}
	if blocks, slots := s.Free(); s.Up() || s.Busy() || s.Geo() != (api.Geo{}) || blocks != 0 || slots != 0 || len(s.Image()) != 0 {
		t.Error("it tells something")
	}
}

// P29.1: each kind of event, one behind the other, and all that is answered.
func TestEach(t *testing.T) {
	s := up(t, 2, 3)
	for _, c := range []struct {
		e    sys.Event
		want sys.Answer
	}{
		{sys.Event{Kind: sys.Mkdir, A: "/a"}, sys.Answer{}},
		{sys.Event{Kind: sys.Create, A: "/a/f"}, sys.Answer{}},
		{sys.Event{Kind: sys.Symlink, A: "/l", B: "a/f"}, sys.Answer{}},
		{sys.Event{Kind: sys.Symlink, A: "a/f", B: "/m"}, sys.Answer{Errno: api.ErrName}},
		{sys.Event{Kind: sys.Readlink, A: "/l"}, sys.Answer{Text: "a/f"}},
		{sys.Event{Kind: sys.Link, A: "/a/f", B: "/g"}, sys.Answer{}},
		{sys.Event{Kind: sys.Readdir, A: "/"}, sys.Answer{Items: []api.Item{{Name: "a", Id: 2}, {Name: "g", Id: 3}, {Name: "l", Id: 4}}}},
		{sys.Event{Kind: sys.Open, A: "/l"}, sys.Answer{}},
		{sys.Event{Kind: sys.Open, A: "/g"}, sys.Answer{N: 1}},
		{sys.Event{Kind: sys.Write, Fd: 1, Off: 2, Data: []byte("abcdef")}, sys.Answer{}},
		{sys.Event{Kind: sys.Read, Fd: 0, Off: 1, N: 4}, sys.Answer{Data: []byte("\x00abc")}},
		{sys.Event{Kind: sys.Truncate, Fd: 1, Off: 5, N: 9}, sys.Answer{}},
		{sys.Event{Kind: sys.Fstat, Fd: 1}, sys.Answer{Stat: api.Stat{Id: 3, Kind: api.File, Size: 5, Links: 2}}},
		{sys.Event{Kind: sys.Stat, A: "/l"}, sys.Answer{Stat: api.Stat{Id: 3, Kind: api.File, Size: 5, Links: 2}}},
		{sys.Event{Kind: sys.Lstat, A: "/l"}, sys.Answer{Stat: api.Stat{Id: 4, Kind: api.Link, Size: 3, Links: 1}}},
		{sys.Event{Kind: sys.Rename, A: "/g", B: "/a/h"}, sys.Answer{}},
		{sys.Event{Kind: sys.Unlink, A: "/a/f"}, sys.Answer{}},
		{sys.Event{Kind: sys.Rmdir, A: "/a"}, sys.Answer{Errno: api.ErrFilled}},
		{sys.Event{Kind: sys.Close, Fd: 0}, sys.Answer{}},
		{sys.Event{Kind: sys.Close, Fd: 0}, sys.Answer{Errno: api.ErrFd}},
		{sys.Event{Kind: sys.Mkdir, A: "/b"}, sys.Answer{}},
		{sys.Event{Kind: sys.Rmdir, A: "/b"}, sys.Answer{}},
		{sys.Event{Kind: sys.Readdir, A: "/a"}, sys.Answer{Items: []api.Item{{Name: "h", Id: 3}}}},
	} {
		answers(t, s, c.e, c.want)
	}
}

// P29.1: what is made safe, and how much was written for it; a block, and how many are free by a flush.
func TestEachSafe(t *testing.T) {
	s := up(t, 2, 2)
	refused(t, s, sys.Event{Kind: sys.Back}, api.ErrNone)
	refused(t, s, sys.Event{Kind: sys.Fsync, Fd: 0}, api.ErrFd)
	answers(t, s, sys.Event{Kind: sys.Sync}, sys.Answer{})
	answers(t, s, sys.Event{Kind: sys.Flush}, sys.Answer{})
	file(t, s, "/f", 0, 300)
	if a := s.Do(sys.Event{Kind: sys.Fsync}); a.Errno != api.OK || a.N < 2 {
		t.Error("Fsync", a)
	}
	answers(t, s, sys.Event{Kind: sys.Fsync}, sys.Answer{})
	if a := s.Do(sys.Event{Kind: sys.Sync}); a.Errno != api.OK || a.N < 1 {
		t.Error("Sync", a)
	}
	does(t, s, sys.Event{Kind: sys.Truncate, Off: 3}) // its first block, and then its table's
	blocks, slots := s.Free()
	answers(t, s, sys.Event{Kind: sys.Back, N: -1}, sys.Answer{N: 6})
	answers(t, s, sys.Event{Kind: sys.Flush}, sys.Answer{})
	answers(t, s, sys.Event{Kind: sys.Back, N: 4}, sys.Answer{N: 3})
	answers(t, s, sys.Event{Kind: sys.Flush}, sys.Answer{N: 1})
	if b, n := s.Free(); b != blocks+1 || n != slots {
		t.Errorf("Free: %d, %d, behind %d, %d", b, n, blocks, slots)
	}
}

// P29.1: a kind that is none, while it is up and while it is down.
func TestNoKind(t *testing.T) {
	s := up(t, 1, 1)
	for range 2 {
		for _, kind := range []int{0, -1, 30, 31, 1000, math.MaxInt, math.MinInt} {
			refused(t, s, sys.Event{Kind: kind, A: "/a", B: "/b", N: 2, Pick: []int{1}}, api.ErrArg)
		}
		s = load(t, s.Image())
	}
}

// P29.1, P29.2: of a machine that is down all kinds but four are refused, and it tells nothing but its bytes.
func TestDown(t *testing.T) {
	s := up(t, 2, 2)
	does(t, s, sys.Event{Kind: sys.Create, A: "/f"}, sys.Event{Kind: sys.Open, A: "/f"}, sys.Event{Kind: sys.Sync}, sys.Event{Kind: sys.Defrag}, sys.Event{Kind: sys.Crash})
	for _, e := range kinds() {
		if e.Kind < sys.Stop {
			refused(t, s, e, api.ErrState)
		}
	}
	if blocks, slots := s.Free(); s.Up() || s.Busy() || s.Geo() != (api.Geo{}) || blocks != 0 || slots != 0 {
		t.Error("it is down, and tells something")
	}
	answers(t, s, sys.Event{Kind: sys.Stop, N: 7}, sys.Answer{})
	answers(t, s, sys.Event{Kind: sys.Crash, Pick: []int{1, 2}}, sys.Answer{})
	answers(t, s, sys.Event{Kind: sys.Repair}, sys.Answer{})
	if s.Up() {
		t.Error("Repair lets it be up")
	}
	answers(t, s, sys.Event{Kind: sys.Mount}, sys.Answer{})
	if !s.Up() || s.Busy() || s.Geo() != shape(2) {
		t.Error("Mount lets it be as it was not")
	}
}

// P29.1: of a machine that is up Repair and Mount are refused, and what is open, and under way, stays so.
func TestUp(t *testing.T) {
	s := up(t, 2, 3)
	file(t, s, "/f", 0, 3)
	does(t, s, sys.Event{Kind: sys.Grow, N: 3})
	refused(t, s, sys.Event{Kind: sys.Repair}, api.ErrState)
	refused(t, s, sys.Event{Kind: sys.Mount}, api.ErrState)
	answers(t, s, sys.Event{Kind: sys.Read, N: 9}, sys.Answer{Data: []byte("xxx")})
	answers(t, s, sys.Event{Kind: sys.Step}, sys.Answer{})
	answers(t, s, sys.Event{Kind: sys.Step}, sys.Answer{Over: true})
}

// P29.1: what makes the volume larger and what makes it smaller are not under way together; the one that is, is told ahead of what else is wrong.
func TestBusy(t *testing.T) {
	s := up(t, 2, 3)
	does(t, s, sys.Event{Kind: sys.Grow, N: 3})
	for _, n := range []int{1, 0, -1, 2, 3, math.MaxInt, math.MinInt} {
		refused(t, s, sys.Event{Kind: sys.Shrink, N: n}, api.ErrBusy)
		refused(t, s, sys.Event{Kind: sys.Grow, N: n}, api.ErrState)
	}
	does(t, s, sys.Event{Kind: sys.Step}, sys.Event{Kind: sys.Step}, sys.Event{Kind: sys.Shrink, N: 2})
	for _, n := range []int{4, 3, 2, 0, -1, math.MaxInt, math.MinInt} {
		refused(t, s, sys.Event{Kind: sys.Grow, N: n}, api.ErrBusy)
		refused(t, s, sys.Event{Kind: sys.Shrink, N: n}, api.ErrState)
	}
	does(t, s, sys.Event{Kind: sys.Step})
	for _, n := range []int{2, 1, 0, -1, 17, math.MaxInt, math.MinInt} {
		refused(t, s, sys.Event{Kind: sys.Grow, N: n}, api.ErrArg)
	}
	refused(t, s, sys.Event{Kind: sys.Grow, N: 4}, api.ErrSize)
	for _, n := range []int{2, 3, 0, -1, math.MaxInt, math.MinInt} {
		refused(t, s, sys.Event{Kind: sys.Shrink, N: n}, api.ErrArg)
	}
	does(t, s, sys.Event{Kind: sys.Defrag})
	refused(t, s, sys.Event{Kind: sys.Defrag}, api.ErrState)
	does(t, s, sys.Event{Kind: sys.Grow, N: 3}) // putting in order is under way beside it
}

// P29.1, P29.2: a Step of each of the three, and of nothing; Over, Busy and the shape behind each.
func TestStep(t *testing.T) {
	s := up(t, 2, 3)
	step := func(over, busy bool, groups int) {
		t.Helper()
		answers(t, s, sys.Event{Kind: sys.Step}, sys.Answer{Over: over})
		if s.Busy() != busy || s.Geo() != shape(groups) {
			t.Errorf("Busy %t, %v", s.Busy(), s.Geo())
		}
	}
	refused(t, s, sys.Event{Kind: sys.Step}, api.ErrState)
	does(t, s, sys.Event{Kind: sys.Grow, N: 3})
	step(false, true, 2)
	step(true, false, 3)
	refused(t, s, sys.Event{Kind: sys.Step}, api.ErrState)
	if blocks, slots := s.Free(); blocks != 3*13 || slots != 3*8-2 {
		t.Error("Free", blocks, slots)
	}
	file(t, s, "/f", 0, 4096)
	does(t, s, sys.Event{Kind: sys.Truncate, Off: 0}, sys.Event{Kind: sys.Sync}, sys.Event{Kind: sys.Shrink, N: 1})
	if blocks, slots := s.Free(); blocks != 13-1 || slots != 8-3 || !s.Busy() { // the root has one
		t.Error("Free", blocks, slots)
	}
	step(true, false, 1)
	does(t, s, sys.Event{Kind: sys.Defrag})
	step(false, true, 1)
	step(true, false, 1)
	refused(t, s, sys.Event{Kind: sys.Step}, api.ErrState)
}

// P29.1: of two that are under way what changes the shape has its steps ahead of what puts in order.
func TestStepOfTwo(t *testing.T) {
	for _, c := range []struct{ kind, to, steps int }{{sys.Grow, 3, 2}, {sys.Shrink, 1, 1}} {
		for _, first := range []int{sys.Defrag, c.kind} {
			s := up(t, 2, 3)
			does(t, s, sys.Event{Kind: first, N: c.to}, sys.Event{Kind: sys.Defrag + c.kind - first, N: c.to})
			for k := range c.steps {
				answers(t, s, sys.Event{Kind: sys.Step}, sys.Answer{Over: k == c.steps-1})
			}
			if s.Geo() != shape(c.to) || !s.Busy() {
				t.Errorf("behind as many steps: %v, %t", s.Geo(), s.Busy())
			}
			answers(t, s, sys.Event{Kind: sys.Step}, sys.Answer{Over: true}) // the root
			if s.Busy() {
				t.Error("it is not over")
			}
			refused(t, s, sys.Event{Kind: sys.Step}, api.ErrState)
		}
	}
}

// P29.1: a volume that can not get smaller: it is over, beside the error, and all else is zero.
func TestOverBesideError(t *testing.T) {
	s := up(t, 2, 2)
	file(t, s, "/f", 0, 3000)
	file(t, s, "/g", 1, 1500)
	blocks, slots := s.Free()
	does(t, s, sys.Event{Kind: sys.Shrink, N: 1})
	steps := 0
	for s.Busy() && steps < 50 {
		a := s.Do(sys.Event{Kind: sys.Step})
		if steps++; s.Busy() && !same(a, sys.Answer{}) || !s.Busy() && !reflect.DeepEqual(a, sys.Answer{Errno: api.ErrSpace, Over: true}) {
			t.Errorf("Step: %v, busy %t", a, s.Busy())
		}
	}
	if b, n := s.Free(); steps == 0 || steps == 50 || s.Geo() != shape(2) || b > blocks || n != slots {
		t.Errorf("behind %d steps: %v, %d, %d, not %d, %d", steps, s.Geo(), b, n, blocks, slots)
	}
	refused(t, s, sys.Event{Kind: sys.Step}, api.ErrState)
}

// P29.1: beside an error all but it is zero, of each kind.
func TestZeroBesideError(t *testing.T) {
	s := up(t, 1, 1)
	does(t, s, sys.Event{Kind: sys.Mkdir, A: "/d"}, sys.Event{Kind: sys.Create, A: "/d/f"}, sys.Event{Kind: sys.Symlink, A: "/l", B: "/l"})
	for _, path := range []string{"", "d", "/d/f/x", "/l/x", "/x/y", "/\x00", strings.Repeat("/", 256), "/" + strings.Repeat("n", 25)} {
		for kind := sys.Create; kind <= sys.Open; kind++ {
			was := state(s)
			a := s.Do(sys.Event{Kind: kind, A: path, B: path, Data: []byte("data")})
			if a.Errno == api.OK || !reflect.DeepEqual(a, sys.Answer{Errno: a.Errno}) || !reflect.DeepEqual(state(s), was) {
				t.Errorf("%d of %q: %v", kind, path, a)
			}
		}
	}
	for _, fd := range []int{0, -1, 7, 8, math.MaxInt, math.MinInt} {
		for _, kind := range []int{sys.Close, sys.Read, sys.Write, sys.Truncate, sys.Fstat, sys.Fsync} {
			refused(t, s, sys.Event{Kind: kind, Fd: fd, Off: math.MinInt64, N: math.MaxInt, Data: make([]byte, 5000)}, api.ErrFd)
		}
	}
	does(t, s, sys.Event{Kind: sys.Open, A: "/d/f"})
	for _, off := range []int64{-1, math.MinInt64} {
		refused(t, s, sys.Event{Kind: sys.Read, Off: off, N: 1}, api.ErrRange)
		refused(t, s, sys.Event{Kind: sys.Write, Off: off}, api.ErrRange)
		refused(t, s, sys.Event{Kind: sys.Truncate, Off: off}, api.ErrRange)
	}
	refused(t, s, sys.Event{Kind: sys.Read, N: 4097}, api.ErrRange)
	refused(t, s, sys.Event{Kind: sys.Read, N: -1}, api.ErrRange)
	refused(t, s, sys.Event{Kind: sys.Write, Data: make([]byte, 4097)}, api.ErrRange)
	refused(t, s, sys.Event{Kind: sys.Write, Off: math.MaxInt64, Data: []byte("x")}, api.ErrBig)
	refused(t, s, sys.Event{Kind: sys.Truncate, Off: math.MaxInt64}, api.ErrBig)
	refused(t, s, sys.Event{Kind: sys.Write, Data: make([]byte, 4096)}, api.ErrSpace)
}

// P29.1, P29.2: what is wrong on the disk; a Repair and a Mount that fail let it be down, and as it was.
func TestFails(t *testing.T) {
	none := load(t, make([]byte, 256*40))
	refused(t, none, sys.Event{Kind: sys.Repair}, api.ErrSuper)
	refused(t, none, sys.Event{Kind: sys.Mount}, api.ErrSuper)
	image := up(t, 2, 2).Image()
	image[2*256] ^= 1
	s := load(t, image)
	refused(t, s, sys.Event{Kind: sys.Mount}, api.ErrForm)
	answers(t, s, sys.Event{Kind: sys.Repair}, sys.Answer{N: 1})
	refused(t, s, sys.Event{Kind: sys.Create, A: "/f"}, api.ErrState)
	answers(t, s, sys.Event{Kind: sys.Repair}, sys.Answer{})
	answers(t, s, sys.Event{Kind: sys.Mount}, sys.Answer{})
	if !bytes.Equal(s.Image(), up(t, 2, 2).Image()) || !s.Up() {
		t.Error("it was put right as it was not")
	}
}

// P29.1: a Stop holds while it is down, too, till the power goes.
func TestStopOfRepair(t *testing.T) {
	right := up(t, 2, 2).Image()
	image := bytes.Clone(right)
	image[2*256] ^= 1
	image[18*256] ^= 1
	for n := -1; n < 4; n++ {
		s := load(t, image)
		answers(t, s, sys.Event{Kind: sys.Stop, N: 9}, sys.Answer{})
		answers(t, s, sys.Event{Kind: sys.Stop, N: n}, sys.Answer{})
		answers(t, s, sys.Event{Kind: sys.Repair}, sys.Answer{N: 2})
		d, _ := disk.Load(image)
		d.Stop(n)
		fsck.Repair(d)
		if !bytes.Equal(s.Image(), d.Bytes()) || bytes.Equal(s.Image(), right) != (n >= 2) {
			t.Errorf("stopped behind %d it is put right otherwise", n)
		}
		answers(t, s, sys.Event{Kind: sys.Crash, Pick: []int{1}}, sys.Answer{})
		d.Crash([]int{1})
		if !bytes.Equal(s.Image(), d.Bytes()) || s.Up() {
			t.Errorf("stopped behind %d it is otherwise when the power is gone", n)
		}
		if a := s.Do(sys.Event{Kind: sys.Repair}); a.Errno != api.OK || (a.N == 0) != (n >= 3) || !bytes.Equal(s.Image(), right) {
			t.Errorf("stopped behind %d: Repair: %v", n, a)
		}
	}
}

// P29.1, P29.3: a Stop changes no answer while it is up; what comes behind it is not there when the power is gone.
func TestStopWhileUp(t *testing.T) {
	s := up(t, 2, 2)
	does(t, s, sys.Event{Kind: sys.Mkdir, A: "/a"}, sys.Event{Kind: sys.Sync}, sys.Event{Kind: sys.Stop, N: math.MinInt})
	was := s.Image()
	file(t, s, "/f", 0, 600)
	does(t, s, sys.Event{Kind: sys.Rename, A: "/a", B: "/b"}, sys.Event{Kind: sys.Sync})
	answers(t, s, sys.Event{Kind: sys.Readdir, A: "/"}, sys.Answer{Items: []api.Item{{Name: "b", Id: 2}, {Name: "f", Id: 3}}})
	answers(t, s, sys.Event{Kind: sys.Fstat}, sys.Answer{Stat: api.Stat{Id: 3, Kind: api.File, Size: 600, Links: 1}})
	if !bytes.Equal(s.Image(), was) {
		t.Error("something was written behind the Stop")
	}
	goes(t, s)
	answers(t, s, sys.Event{Kind: sys.Readdir, A: "/"}, sys.Answer{Items: []api.Item{{Name: "a", Id: 2}}})
}

// P29.1, P29.2: behind Mount nothing is open, nothing is under way, and nothing is frozen.
func TestPowerGoes(t *testing.T) {
	for _, e := range []sys.Event{{Kind: sys.Grow, N: 3}, {Kind: sys.Shrink, N: 1}, {Kind: sys.Defrag}} {
		s := up(t, 2, 3)
		file(t, s, "/f", 0, 10)
		does(t, s, sys.Event{Kind: sys.Sync})
		blocks, slots := s.Free()
		does(t, s, e, sys.Event{Kind: sys.Crash, Pick: []int{math.MaxInt, math.MinInt, 5}})
		if s.Up() || s.Busy() {
			t.Error("it is not down")
		}
		does(t, s, sys.Event{Kind: sys.Repair}, sys.Event{Kind: sys.Mount})
		if b, n := s.Free(); s.Busy() || b != blocks || n != slots || s.Geo() != shape(2) {
			t.Errorf("%v: %t, %v, %d, %d, not %d, %d", e, s.Busy(), s.Geo(), b, n, blocks, slots)
		}
		refused(t, s, sys.Event{Kind: sys.Step}, api.ErrState)
		refused(t, s, sys.Event{Kind: sys.Read, N: 1}, api.ErrFd)
		answers(t, s, sys.Event{Kind: sys.Open, A: "/f"}, sys.Answer{})
		does(t, s, e)
	}
}

// P29.1: the power goes with any of what was written kept: of two files, each with other bytes in its block.
func TestCrash(t *testing.T) {
	written := func() *sys.Sys {
		s := up(t, 2, 2)
		file(t, s, "/f", 0, 3)
		file(t, s, "/g", 1, 3)
		does(t, s, sys.Event{Kind: sys.Sync})
		for fd := range 2 {
			for _, b := range []string{"one", "two"} {
				does(t, s, sys.Event{Kind: sys.Write, Fd: fd, Data: []byte(b)}, sys.Event{Kind: sys.Back, N: fd})
			}
		}
		return s
	}
	for _, c := range []struct {
		pick []int
		want string
	}{
		{nil, "xxx xxx"}, {[]int{}, "xxx xxx"}, {[]int{0, 0}, "xxx xxx"}, {[]int{-1, math.MinInt}, "xxx xxx"}, {[]int{1}, "one xxx"}, {[]int{0, 1}, "xxx one"}, {[]int{1, 2}, "one two"},
		{[]int{2, 1, 7, 7, 7}, "two one"}, {[]int{-1, 3}, "xxx two"}, {[]int{math.MaxInt, math.MaxInt, math.MaxInt}, "two two"},
	} {
		s := written()
		answers(t, s, sys.Event{Kind: sys.Crash, Pick: c.pick}, sys.Answer{})
		answers(t, s, sys.Event{Kind: sys.Crash, Pick: []int{2, 2}}, sys.Answer{})
		does(t, s, sys.Event{Kind: sys.Repair}, sys.Event{Kind: sys.Mount}, sys.Event{Kind: sys.Open, A: "/f"}, sys.Event{Kind: sys.Open, A: "/g"})
		f, g := s.Do(sys.Event{Kind: sys.Read, N: 9}), s.Do(sys.Event{Kind: sys.Read, Fd: 1, N: 9})
		if got := string(f.Data) + " " + string(g.Data); got != c.want {
			t.Errorf("%v: %q, not %q", c.pick, got, c.want)
		}
	}
}

// Rules 3 to 5: what is handed in is not changed and not kept, and what is answered is nobody else's.
func TestNotKept(t *testing.T) {
	s := up(t, 2, 2)
	file(t, s, "/f", 0, 0)
	data, pick := []byte("hello"), []int{1, 2, 3}
	does(t, s, sys.Event{Kind: sys.Write, Data: data})
	if string(data) != "hello" {
		t.Error("Write changed its bytes")
	}
	clear(data)
	for range 2 {
		a := s.Do(sys.Event{Kind: sys.Read, N: 5})
		if string(a.Data) != "hello" {
			t.Errorf("Read: %q", a.Data)
		}
		clear(a.Data)
		b := s.Do(sys.Event{Kind: sys.Readdir, A: "/"})
		if len(b.Items) != 1 || b.Items[0].Name != "f" {
			t.Errorf("Readdir: %v", b.Items)
		}
		clear(b.Items)
		image := s.Image()
		clear(image)
	}
	does(t, s, sys.Event{Kind: sys.Sync}, sys.Event{Kind: sys.Crash, Pick: pick})
	if !reflect.DeepEqual(pick, []int{1, 2, 3}) {
		t.Error("Crash changed its numbers")
	}
	if len(s.Image()) != size(2)*256 || bytes.Count(s.Image(), []byte("hello")) != 1 {
		t.Error("what was answered was the machine's own")
	}
}

// The example of the chapter.
func TestExample(t *testing.T) {
	s := up(t, 2, 2)
	does(t, s, sys.Event{Kind: sys.Mkdir, A: "/a"}, sys.Event{Kind: sys.Sync}, sys.Event{Kind: sys.Create, A: "/a/f"}, sys.Event{Kind: sys.Crash})
	if s.Up() {
		t.Error("it is up")
	}
	does(t, s, sys.Event{Kind: sys.Repair}, sys.Event{Kind: sys.Mount})
	answers(t, s, sys.Event{Kind: sys.Readdir, A: "/a"}, sys.Answer{})
}
