package imove_test

import (
	"reflect"
	"slices"
	"strings"
	"testing"

	"levee/api"
	"levee/disk"
	"levee/fs"
	"levee/imove"
	"levee/vol"
)

// scene is a thing that is to be moved, and what was called ahead of that.
type scene struct {
	name string
	safe func(t *testing.T, f *fs.Fs) // then all is made safe
	open func(t *testing.T, f *fs.Fs) // and this is not
	path string                       // what is moved; if it is empty, what is open by 0
}

// scenes are the edges that the chapters name.
func scenes() []scene {
	nothing := func(*testing.T, *fs.Fs) {}
	calls := func(t *testing.T, steps ...api.Errno) {
		t.Helper()
		for i, e := range steps {
			if e != api.OK {
				t.Fatal("call", i, e)
			}
		}
	}
	tree := func(t *testing.T, f *fs.Fs) {
		t.Helper()
		calls(t, f.Mkdir("/a"), f.Mkdir("/a/b"), f.Mkdir("/c"))
		opened(t, f, "/a/f", strings.Repeat("0123456789abcdef", 120))
		calls(t, f.Symlink("a/f", "/l"), f.Create("/a/b/x"))
	}
	return []scene{
		{name: "a file", safe: tree, open: nothing, path: "/a/f"},
		{name: "a link", safe: tree, open: nothing, path: "/l"},
		{name: "an empty directory", safe: tree, open: nothing, path: "/c"},
		{name: "a directory with others below it", safe: tree, open: nothing, path: "/a"},
		{name: "two names in one directory", safe: func(t *testing.T, f *fs.Fs) {
			tree(t, f)
			calls(t, f.Link("/a/f", "/a/g"))
		}, open: nothing, path: "/a/g"},
		{name: "names in two directories", safe: func(t *testing.T, f *fs.Fs) {
			tree(t, f)
			calls(t, f.Link("/a/f", "/c/g"), f.Link("/a/f", "/a/b/g"), f.Link("/a/f", "/h"))
		}, open: nothing, path: "/h"},
		{name: "no name any more", safe: func(t *testing.T, f *fs.Fs) {
			tree(t, f)
			calls(t, f.Unlink("/a/f"))
		}, open: nothing},
		{name: "nothing safe", safe: nothing, open: tree, path: "/a/f"},
		{name: "nothing safe of a directory", safe: nothing, open: tree, path: "/a"},
		{name: "names that are not safe", safe: tree, open: func(t *testing.T, f *fs.Fs) {
			calls(t, f.Mkdir("/d"), f.Link("/a/f", "/d/g"), f.Link("/a/f", "/c/g"), f.Unlink("/a/f"))
		}, path: "/c/g"},
		{name: "a new name", safe: tree, open: func(t *testing.T, f *fs.Fs) {
			calls(t, f.Mkdir("/d"), f.Rename("/a/f", "/d/g"))
		}, path: "/d/g"},
		{name: "a new name of a directory", safe: tree, open: func(t *testing.T, f *fs.Fs) {
			calls(t, f.Mkdir("/d"), f.Rename("/a", "/d/e"), f.Rename("/c", "/d/e/c"))
		}, path: "/d/e"},
		{name: "below a directory with a new name", safe: tree, open: func(t *testing.T, f *fs.Fs) {
			calls(t, f.Rename("/a", "/c/e"), f.Rename("/c/e/b", "/b"))
		}, path: "/c/e/f"},
		{name: "a name in the place of another", safe: tree, open: func(t *testing.T, f *fs.Fs) {
			calls(t, f.Rename("/a/f", "/a/b/x"), f.Link("/a/b/x", "/z"))
		}, path: "/z"},
		{name: "bytes that are not safe", safe: tree, open: func(t *testing.T, f *fs.Fs) {
			calls(t, f.Truncate(0, 700), f.Write(0, 650, []byte(strings.Repeat("z", 900))), f.Truncate(0, 1000))
		}, path: "/a/f"},
		{name: "no name since, not safely", safe: tree, open: func(t *testing.T, f *fs.Fs) {
			calls(t, f.Write(0, 5, []byte("z")), f.Unlink("/a/f"), f.Create("/a/f"))
		}},
	}
}

// begun is a scene's volume, and the slot that is to be moved there.
func (s scene) begun(t *testing.T) (*disk.Disk, *imove.Slots, int) {
	t.Helper()
	d, f, x := fresh(t, shape)
	s.safe(t, f)
	syncs(t, x)
	s.open(t, f)
	if s.path != "" {
		return d, x, slot(t, x, s.path)
	}
	at, e := nodes(x).Slot(0)
	answers(t, "Slot", e, api.OK)
	return d, x, at
}

// ordered holds the order of a move, as it stands on a disk: entries name a slot that has the thing, and it is the same in both.
func ordered(t *testing.T, d *disk.Disk, from, to int, id int64) {
	t.Helper()
	x := mounted(t, d)
	old, _ := files(x).Get(from)
	now, _ := files(x).Get(to)
	if old.Id == id && now.Id == id && old != now {
		t.Errorf("it stands twice, as %v and as %v", old, now)
	}
	if len(x.Names(to)) > 0 && now.Id != id {
		t.Errorf("%v name the new slot, in which there is %v", x.Names(to), now)
	}
	if len(x.Names(from)) > 0 && old.Id != id {
		t.Errorf("%v name the old slot, in which there is %v", x.Names(from), old)
	}
}

// crashes are copies of a disk whose power went, with more or less of what was written there.
func crashes(d *disk.Disk) []*disk.Disk {
	many := len(d.Open())
	picks := [][]int{nil, slices.Repeat([]int{99}, many)}
	for i := range many {
		one := make([]int, many)
		one[i] = 99
		rest := slices.Repeat([]int{99}, many)
		rest[i] = 0
		picks = append(picks, one, rest)
	}
	var all []*disk.Disk
	for _, p := range picks {
		c := d.Copy()
		c.Crash(p)
		all = append(all, c)
	}
	return all
}

// P22.2, P22.3 (P2): the power goes at every write and every flush within a move. If all was safe ahead of it, all is found as it was, at each of them.
func TestStops(t *testing.T) {
	for _, s := range scenes() {
		stops := 0
		for ; ; stops++ {
			d, x, from := s.begun(t)
			i, _ := files(x).Get(from)
			quiet := x.Mover().Sync().Quiet()
			was := found(t, crashes(d)[0])
			d.Stop(stops)
			to, e := x.Move(from, 20)
			if to != 21 || e != api.OK {
				t.Fatalf("%s: Move: %d, %d", s.name, to, e)
			}
			ended := !d.Stopped()
			for _, c := range crashes(d) {
				ordered(t, c, from, to, i.Id)
				now := found(t, c)
				if quiet && !reflect.DeepEqual(now, was) {
					t.Errorf("behind a crash there is %v, not %v", now, was)
				}
				s.held(t, now, was, i.Id)
			}
			if t.Failed() {
				t.Fatalf("%s, stopped at %d", s.name, stops)
			}
			if ended {
				break
			}
		}
		if stops < 6 { // three changes at least, each written and flushed
			t.Errorf("%s: %d writes and flushes", s.name, stops)
		}
	}
}

// held is P2 of the thing that is moved: what had a safe name, and has one still, is not lost; its bytes are those of the file, or 0.
func (s scene) held(t *testing.T, now, was map[int64]seen, id int64) {
	t.Helper()
	_, had := was[id]
	thing, has := now[id]
	if s.path != "" && had && !has {
		t.Errorf("%d is lost", id)
	}
	if thing.kind == api.Dir && had && len(thing.names) < len(was[id].names)-1 {
		t.Errorf("the directory %d has %v, not %v", id, thing.names, was[id].names)
	}
	if _, root := now[vol.Root]; !root {
		t.Error("there is no root")
	}
	for at, b := range thing.bytes {
		if text := "0123456789abcdef"; thing.kind == api.File && b != 0 && b != 'z' && b != text[at%16] {
			t.Errorf("the byte %d of %d is %x", at, id, b)
			return
		}
	}
}
