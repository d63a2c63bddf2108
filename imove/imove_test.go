package imove_test

import (
	"bytes"
	"fmt"
	"math"
	"slices"
	"strings"
	"testing"

	"levee/alloc"
	"levee/api"
	"levee/dir"
	"levee/disk"
	"levee/file"
	"levee/fs"
	"levee/geo"
	"levee/imove"
	"levee/move"
	"levee/node"
	"levee/patch"
	"levee/sync"
	"levee/vol"
)

// shape is that of most volumes here: the slots 0 to 15, 16 to 31 and 32 to 47.
var shape = api.Geo{Group: 48, Inodes: 16, Groups: 3}

// far are numbers of no slot or block.
var far = []int{math.MinInt, math.MinInt + 1, -1 << 40, -2, -1, 4096, 1 << 32, math.MaxInt - 1, math.MaxInt}

func answers(t *testing.T, what string, got, want api.Errno) {
	t.Helper()
	if got != want {
		t.Errorf("%s: %d, not %d", what, got, want)
	}
}

// formatted is a disk with a new volume whose data blocks were written over.
func formatted(t *testing.T, g api.Geo) *disk.Disk {
	t.Helper()
	d, _ := disk.Load(bytes.Repeat([]byte{0xee}, geo.Size(g)*api.Block))
	answers(t, "Format", vol.Format(d, g), api.OK)
	return d
}

func mounted(t *testing.T, d *disk.Disk) *imove.Slots {
	t.Helper()
	f, e := fs.Mount(d)
	m := move.New(sync.New(f))
	x := imove.New(m)
	if e != api.OK || x == nil || x.Mover() != m {
		t.Fatal("Mount", e)
	}
	return x
}

// fresh is a new volume, its disk, its file system and what moves its things.
func fresh(t *testing.T, g api.Geo) (*disk.Disk, *fs.Fs, *imove.Slots) {
	t.Helper()
	d := formatted(t, g)
	x := mounted(t, d)
	return d, x.Mover().Sync().Fs(), x
}

func nodes(x *imove.Slots) *node.Nodes { return x.Mover().Sync().Fs().Nodes() }

func dirs(x *imove.Slots) *dir.Dirs { return nodes(x).Tree().Dirs() }

func files(x *imove.Slots) *file.Files { return dirs(x).Files() }

func taken(x *imove.Slots) *alloc.Alloc { return files(x).Alloc() }

func volume(x *imove.Slots) *vol.Vol { return taken(x).Vol() }

func store(x *imove.Slots) *patch.Store { return volume(x).Store() }

// slot is where a path's thing stands.
func slot(t *testing.T, x *imove.Slots, path string) int {
	t.Helper()
	way, e := nodes(x).Tree().Walk(path, false)
	if e != api.OK {
		t.Fatal("Walk", path, e)
	}
	return way[len(way)-1]
}

// opened makes a file with some bytes, and opens it.
func opened(t *testing.T, f *fs.Fs, path, text string) int {
	t.Helper()
	answers(t, "Create", f.Create(path), api.OK)
	fd, e := f.Open(path)
	answers(t, "Open", e, api.OK)
	answers(t, "Write", f.Write(fd, 0, []byte(text)), api.OK)
	return fd
}

func syncs(t *testing.T, x *imove.Slots) {
	t.Helper()
	if n, e := x.Mover().Sync().Sync(); e != api.OK || !x.Mover().Sync().Quiet() {
		t.Errorf("Sync: %d, %d", n, e)
	}
}

// reads holds what is read of an open file.
func reads(t *testing.T, f *fs.Fs, fd int, want string) {
	t.Helper()
	if b, e := f.Read(fd, 0, api.MaxIO); string(b) != want || e != api.OK {
		t.Errorf("Read(%d): %q, %d, not %q", fd, b, e, want)
	}
}

// names holds the entries that name a slot.
func names(t *testing.T, x *imove.Slots, slot int, want ...imove.Name) {
	t.Helper()
	if got := x.Names(slot); !slices.Equal(got, want) {
		t.Errorf("Names(%d): %v, not %v", slot, got, want)
	}
}

// moved moves a thing, and holds what there is of it behind that.
func moved(t *testing.T, x *imove.Slots, slot, near int) int {
	t.Helper()
	was, e := files(x).Get(slot)
	answers(t, "Get", e, api.OK)
	named, opens := x.Names(slot), nodes(x).Opens(slot)
	to, e := x.Move(slot, near)
	if e != api.OK || to == slot {
		t.Fatalf("Move(%d, %d): %d, %d", slot, near, to, e)
	}
	if now, e := files(x).Get(to); now != was || e != api.OK {
		t.Errorf("moved to %d it is %v, %d, not %v", to, now, e, was)
	}
	if left, e := files(x).Get(slot); left != (api.Inode{}) || e != api.OK {
		t.Errorf("in the slot %d there is %v, %d", slot, left, e)
	}
	names(t, x, slot)
	names(t, x, to, named...)
	if nodes(x).Opens(slot) != 0 || nodes(x).Opens(to) != opens {
		t.Errorf("it is open %d times in %d, %d times in %d", nodes(x).Opens(slot), slot, nodes(x).Opens(to), to)
	}
	return to
}

// Of nil, and of nothing that moves blocks.
func TestNil(t *testing.T) {
	if imove.New(nil) != nil || imove.New(new(move.Mover)) != nil || imove.New(move.New(new(sync.Sync))) != nil {
		t.Error("New of nothing that moves blocks")
	}
	for what, x := range map[string]*imove.Slots{"nil": nil, "one that was not made": new(imove.Slots)} {
		if x.Mover() != nil {
			t.Errorf("Mover of %s: %v", what, x.Mover())
		}
		for _, n := range append(far, 0, 1, 2) {
			if to, e := x.Move(n, 2); to != 0 || e != api.ErrNil {
				t.Errorf("Move(%d) of %s: %d, %d", n, what, to, e)
			}
			if len(x.Names(n)) != 0 {
				t.Errorf("Names(%d) of %s", n, what)
			}
		}
	}
}

// The example of the chapter.
func TestExample(t *testing.T) {
	_, f, x := fresh(t, shape)
	fd := opened(t, f, "/f", "hello")
	answers(t, "Link", f.Link("/f", "/g"), api.OK)
	was, _ := f.Stat("/f", true)
	if to := moved(t, x, 2, 20); to != 21 {
		t.Errorf("Move: %d", to)
	}
	names(t, x, 21, imove.Name{Dir: 1, Name: "f"}, imove.Name{Dir: 1, Name: "g"})
	for _, path := range []string{"/f", "/g"} {
		if s, e := f.Stat(path, true); s != was || e != api.OK || slot(t, x, path) != 21 {
			t.Errorf("Stat(%q): %v, %d, not %v", path, s, e, was)
		}
	}
	reads(t, f, fd, "hello")
}

// P22.1: all entries of all directories, these by their slots, and in each by their places.
func TestNames(t *testing.T) {
	_, f, x := fresh(t, shape)
	for _, path := range []string{"/b", "/a", "/a/c"} {
		answers(t, "Mkdir", f.Mkdir(path), api.OK)
	}
	answers(t, "Create", f.Create("/a/c/f"), api.OK)
	at := slot(t, x, "/a/c/f")
	for _, path := range []string{"/z", "/y", "/b/f", "/a/g", "/a/h", "/a/a", "/x"} {
		answers(t, "Link", f.Link("/a/c/f", path), api.OK)
	}
	answers(t, "Create", f.Create("/a/other"), api.OK)
	answers(t, "Unlink", f.Unlink("/a/g"), api.OK)
	answers(t, "Link", f.Link("/z", "/a/last"), api.OK) // in the place of g
	b, a, c := slot(t, x, "/b"), slot(t, x, "/a"), slot(t, x, "/a/c")
	if !slices.IsSorted([]int{1, b, a, c}) {
		t.Fatal("slots", b, a, c)
	}
	want := []imove.Name{{1, "z"}, {1, "y"}, {1, "x"}, {b, "f"}, {a, "last"}, {a, "h"}, {a, "a"}, {c, "f"}}
	names(t, x, at, want...)
	names(t, x, a, imove.Name{Dir: 1, Name: "a"})
	names(t, x, c, imove.Name{Dir: a, Name: "c"})
	for _, n := range append(far, 0, 1, at+2, 47, 48) {
		names(t, x, n)
	}
	list := x.Names(at)
	for i := range list {
		list[i] = imove.Name{}
	}
	_ = append(list[:1], imove.Name{})
	names(t, x, at, want...)
	if n, e := x.Move(b, 40); n != 41 || e != api.OK { // the directory comes behind the others
		t.Errorf("Move: %d, %d", n, e)
	}
	names(t, x, at, append(append(slices.Clone(want[:3]), want[4:]...), imove.Name{Dir: 41, Name: "f"})...)
}

// P22.1: entries that name a slot without a thing are told, too; those of a directory that went are none.
func TestNamesOfNothing(t *testing.T) {
	_, f, x := fresh(t, shape)
	answers(t, "Mkdir", f.Mkdir("/a"), api.OK)
	_, e := dirs(x).Add(slot(t, x, "/a"), "odd", 30)
	answers(t, "Add", e, api.OK)
	names(t, x, 30, imove.Name{Dir: 2, Name: "odd"})
	if to, e := x.Move(30, 2); to != 0 || e != api.ErrNone {
		t.Errorf("Move: %d, %d", to, e)
	}
	_, e = dirs(x).Remove(2, "odd")
	answers(t, "Remove", e, api.OK)
	names(t, x, 30)
	answers(t, "Rmdir", f.Rmdir("/a"), api.OK)
	names(t, x, 2)
}

// P22.2: what is refused, in the order of the errors, and changes nothing.
func TestRefused(t *testing.T) {
	d, f, x := fresh(t, api.Geo{Group: 16, Inodes: 4, Groups: 2})
	opened(t, f, "/f", "hello")
	syncs(t, x)
	answers(t, "Create", f.Create("/g"), api.OK)
	refused := func(slot int, want api.Errno) {
		t.Helper()
		for _, near := range append(far, 0, 1, slot) {
			was, open, work := d.Bytes(), store(x).Open(), volume(x).Work().Len()
			if to, e := x.Move(slot, near); to != 0 || e != want {
				t.Errorf("Move(%d, %d): %d, %d, not %d", slot, near, to, e, want)
			}
			if !bytes.Equal(d.Bytes(), was) || store(x).Open() != open || volume(x).Work().Len() != work {
				t.Errorf("Move(%d, %d) changed something", slot, near)
			}
		}
	}
	wrong := func(free api.Errno) {
		t.Helper()
		refused(vol.Root, api.ErrArg)
		for _, n := range append(far, 8, 9, 64, 1023, 1024) {
			refused(n, api.ErrRange)
		}
		refused(0, api.ErrNone)
		if free == api.OK {
			refused(4, api.ErrNone)
			return
		}
		refused(2, api.ErrNone) // which waits to be free
		for n := 3; n < 8; n++ {
			refused(n, api.ErrSpace)
		}
	}
	wrong(api.OK)
	for _, path := range []string{"/h", "/i", "/j", "/k"} {
		answers(t, "Create", f.Create(path), api.OK)
	}
	answers(t, "Close", f.Close(0), api.OK)
	answers(t, "Unlink", f.Unlink("/f"), api.OK)
	wrong(api.ErrSpace)
	syncs(t, x)
	if to := moved(t, x, 3, 6); to != 2 {
		t.Errorf("Move: %d, not 2, which alone is free", to)
	}
	if to := moved(t, x, 2, 2); to != 3 { // what a move gives, it settles
		t.Errorf("Move: %d", to)
	}
}

// P22.2: of an inode that can not be, file.Get's error.
func TestBrokenInode(t *testing.T) {
	d, f, x := fresh(t, shape)
	opened(t, f, "/f", "hello")
	syncs(t, x)
	b, place, _ := geo.Place(shape, 2)
	table, _ := d.Read(b)
	table[place*api.InodeSize+63] ^= 0xff
	d.Write(b, table)
	x = mounted(t, d)
	_, want := files(x).Get(2)
	if to, e := x.Move(2, 20); want == api.OK || to != 0 || e != want {
		t.Errorf("Move: %d, %d, not %d", to, e, want)
	}
	names(t, x, 2, imove.Name{Dir: 1, Name: "f"})
}

// P22.2: the thing stands where alloc.Slot near one is.
func TestNear(t *testing.T) {
	_, f, x := fresh(t, shape)
	opened(t, f, "/f", "hello")
	at := 2
	for _, c := range []struct{ near, to int }{
		{2, 3},
		{3, 4},
		{1, 2},
		{14, 15},
		{15, 2}, // round
		{16, 17},
		{31, 16},
		{46, 47},
		{47, 32},
		{48, 2}, // no slot
		{-1, 3},
		{math.MaxInt, 2},
		{0, 3},
	} {
		if to := moved(t, x, at, c.near); to != c.to {
			t.Fatalf("Move near %d: %d, not %d", c.near, to, c.to)
		}
		at = c.to
	}
}

// P22.2: nothing is moved into a group that is frozen, but out of it; ErrSpace, if no other slot is free.
func TestFrozen(t *testing.T) {
	_, f, x := fresh(t, api.Geo{Group: 16, Inodes: 4, Groups: 3})
	opened(t, f, "/f", "hello")
	freeze := func(k int, on bool) {
		t.Helper()
		answers(t, "Freeze", taken(x).Freeze(k, on), api.OK)
	}
	freeze(0, true)
	freeze(1, true)
	if to := moved(t, x, 2, 2); to != 8 {
		t.Errorf("Move: %d", to)
	}
	if to := moved(t, x, 8, 5); to != 9 {
		t.Errorf("Move: %d", to)
	}
	freeze(2, true)
	if to, e := x.Move(9, 5); to != 0 || e != api.ErrSpace {
		t.Errorf("Move: %d, %d", to, e)
	}
	freeze(1, false)
	if to := moved(t, x, 9, 9); to != 4 {
		t.Errorf("Move: %d", to)
	}
}

// P22.2: a volume without a free block: a thing is moved without one.
func TestNoBlock(t *testing.T) {
	_, f, x := fresh(t, api.Geo{Group: 16, Inodes: 8, Groups: 2})
	answers(t, "Mkdir", f.Mkdir("/a"), api.OK)
	fd := opened(t, f, "/a/f", "hello")
	answers(t, "Link", f.Link("/a/f", "/g"), api.OK)
	for {
		if _, _, e := taken(x).Block(0); e == api.ErrSpace {
			break
		}
	}
	if blocks, _ := f.Free(); blocks != 0 {
		t.Fatal("Free", blocks)
	}
	moved(t, x, slot(t, x, "/a/f"), 9)
	moved(t, x, slot(t, x, "/a"), 9)
	reads(t, f, fd, "hello")
	if s, e := f.Stat("/a/f", true); s.Links != 2 || s.Id != 3 || e != api.OK {
		t.Errorf("Stat: %v, %d", s, e)
	}
}

// P22.2: Move takes a slot and gives one, and settles; what waited for the thing's changes is free as well.
func TestSettles(t *testing.T) {
	_, f, x := fresh(t, shape)
	fd := opened(t, f, "/f", strings.Repeat("f", 1000))
	opened(t, f, "/g", strings.Repeat("g", 1000))
	syncs(t, x)
	blocks, slots := f.Free()
	answers(t, "Truncate", f.Truncate(fd, 10), api.OK)
	answers(t, "Truncate", f.Truncate(1, 10), api.OK)
	moved(t, x, 2, 20)
	if b, s := f.Free(); b != blocks+3 || s != slots {
		t.Errorf("Free: %d, %d; it was %d, %d", b, s, blocks, slots)
	}
	if n := x.Mover().Waits(0); n != 3 || !taken(x).Taken(13) || taken(x).Taken(9) {
		t.Errorf("%d wait, not the other file's", n)
	}
	syncs(t, x)
	if b, s := f.Free(); b != blocks+6 || s != slots {
		t.Errorf("Free: %d, %d", b, s)
	}
}

// P22.2: behind Move all of the thing is safe: its bytes, its inode, its names; what is not of it is not written.
func TestSafe(t *testing.T) {
	d, f, x := fresh(t, shape)
	answers(t, "Mkdir", f.Mkdir("/a"), api.OK)
	opened(t, f, "/a/f", strings.Repeat("f", 2000))
	answers(t, "Link", f.Link("/a/f", "/g"), api.OK)
	opened(t, f, "/other", strings.Repeat("o", 2000))
	other, _ := files(x).Owned(slot(t, x, "/other"))
	to := moved(t, x, slot(t, x, "/a/f"), 20)
	if len(d.Open()) != 0 || len(files(x).Changes(3)) != 0 || len(files(x).Changes(to)) != 0 {
		t.Error("something of it is not safe")
	}
	for _, b := range other {
		if now, _ := d.Read(b); !bytes.Equal(now, bytes.Repeat([]byte{0xee}, api.Block)) {
			t.Errorf("Move wrote the block %d of another file", b)
		}
	}
	c := d.Copy()
	c.Crash(nil)
	y := mounted(t, c)
	names(t, y, to, imove.Name{Dir: 1, Name: "g"}, imove.Name{Dir: 2, Name: "f"})
	names(t, y, 3)
	if b, e := files(y).Read(to, 0, api.MaxIO); string(b) != strings.Repeat("f", 2000) || e != api.OK {
		t.Errorf("behind a crash it has other bytes: %d", e)
	}
	if i, e := files(y).Get(3); i != (api.Inode{}) || e != api.OK {
		t.Errorf("behind a crash the old slot has %v, %d", i, e)
	}
	if a := found(t, c)[3]; a.size != 2000 || string(a.bytes) != strings.Repeat("f", 2000) {
		t.Errorf("behind a crash the file is lost: %v", a)
	}
}

// P22.2, P22.3: a directory with things below it, and a link, moved; paths lead where they led.
func TestMoveDir(t *testing.T) {
	_, f, x := fresh(t, shape)
	for _, path := range []string{"/a", "/a/b", "/a/b/c"} {
		answers(t, "Mkdir", f.Mkdir(path), api.OK)
	}
	answers(t, "Symlink", f.Symlink("a/b", "/l"), api.OK)
	fd := opened(t, f, "/a/b/f", "hello")
	for round := range 3 {
		for _, path := range []string{"/a/b", "/a", "/a/b/c", "/l", "/a/b/f"} {
			was, _ := f.Stat(path, false)
			items, _ := f.Readdir("/l")
			moved(t, x, slot(t, x, path), 16*round+7)
			if now, e := f.Stat(path, false); now != was || e != api.OK {
				t.Errorf("Stat(%q): %v, %d, not %v", path, now, e, was)
			}
			if now, e := f.Readdir("/l"); fmt.Sprint(now) != fmt.Sprint(items) || e != api.OK {
				t.Errorf("Readdir: %v, %d, not %v", now, e, items)
			}
			if text, e := f.Readlink("/l"); text != "a/b" || e != api.OK {
				t.Errorf("Readlink: %q, %d", text, e)
			}
		}
		answers(t, "Rename", f.Rename("/a", "/l/d"), api.ErrLoop)
		answers(t, "Rmdir", f.Rmdir("/a/b"), api.ErrFilled)
		answers(t, "Create", f.Create("/l/"+string(rune('1'+round))), api.OK)
		answers(t, "Rename", f.Rename("/a/b/f", "/a/f"), api.OK)
		answers(t, "Rename", f.Rename("/a/f", "/a/b/f"), api.OK)
	}
	reads(t, f, fd, "hello")
	if items, e := f.Readdir("/a/b"); len(items) != 5 || e != api.OK {
		t.Errorf("Readdir: %v, %d", items, e)
	}
}

// P22.2, P22.3: a thing that is open, more than once, and has no name any more.
func TestMoveOpen(t *testing.T) {
	for _, safe := range []bool{false, true} {
		_, f, x := fresh(t, shape)
		fd := opened(t, f, "/f", "hello")
		again, _ := f.Open("/f")
		other := opened(t, f, "/g", "other")
		if safe {
			syncs(t, x)
		}
		answers(t, "Unlink", f.Unlink("/f"), api.OK)
		to := moved(t, x, 2, 20)
		reads(t, f, fd, "hello")
		answers(t, "Write", f.Write(again, 5, []byte(" there")), api.OK)
		to = moved(t, x, to, 40)
		reads(t, f, fd, "hello there")
		reads(t, f, other, "other")
		if s, e := f.Fstat(again); s != (api.Stat{Id: 2, Kind: api.File, Size: 11}) || e != api.OK {
			t.Errorf("Fstat: %v, %d", s, e)
		}
		answers(t, "Close", f.Close(fd), api.OK)
		to = moved(t, x, to, 20)
		answers(t, "Close", f.Close(again), api.OK)
		if to, e := x.Move(to, 2); to != 0 || e != api.ErrNone {
			t.Errorf("Move: %d, %d", to, e)
		}
		syncs(t, x)
		if blocks, slots := f.Free(); blocks != 3*43-2 || slots != 3*16-3 {
			t.Errorf("Free: %d, %d", blocks, slots)
		}
	}
}

// P22.4, P15.6: a slot that a thing left is another one's, and nothing of the two comes together.
func TestSlotAgain(t *testing.T) {
	_, f, x := fresh(t, shape)
	one := opened(t, f, "/f", "hello")
	moved(t, x, 2, 20)
	two := opened(t, f, "/g", "other")
	if at := slot(t, x, "/g"); at != 2 {
		t.Fatal("slot", at)
	}
	if a, _ := f.Fstat(one); a.Id != 2 {
		t.Errorf("Fstat: %v", a)
	}
	if b, _ := f.Fstat(two); b.Id != 3 {
		t.Errorf("Fstat: %v", b)
	}
	answers(t, "Truncate", f.Truncate(two, 1), api.OK)
	answers(t, "Unlink", f.Unlink("/g"), api.OK)
	answers(t, "Close", f.Close(two), api.OK)
	syncs(t, x)
	reads(t, f, one, "hello")
	if at := moved(t, x, 21, 1); at != 2 {
		t.Errorf("Move: %d", at)
	}
	reads(t, f, one, "hello")
}

// P22.2: a file of many names in many directories.
func TestManyNames(t *testing.T) {
	_, f, x := fresh(t, api.Geo{Group: 128, Inodes: 16, Groups: 2})
	answers(t, "Create", f.Create("/f"), api.OK)
	for _, top := range []string{"/a", "/b", "/c"} {
		answers(t, "Mkdir", f.Mkdir(top), api.OK)
		for n := range 60 {
			answers(t, "Link", f.Link("/f", fmt.Sprint(top, "/", n)), api.OK)
		}
	}
	to := moved(t, x, 2, 20)
	if n := len(x.Names(to)); n != 181 {
		t.Errorf("%d names", n)
	}
	if s, e := f.Stat("/c/59", false); s.Links != 181 || s.Id != 2 || e != api.OK {
		t.Errorf("Stat: %v, %d", s, e)
	}
}

// Two that are made of one file system see what the other one did.
func TestTwo(t *testing.T) {
	_, f, x := fresh(t, shape)
	y := imove.New(x.Mover())
	fd := opened(t, f, "/f", "hello")
	moved(t, x, 2, 20)
	if to := moved(t, y, 21, 20); to != 22 {
		t.Errorf("Move: %d", to)
	}
	if to, e := x.Move(21, 2); to != 0 || e != api.ErrNone {
		t.Errorf("Move: %d, %d", to, e)
	}
	reads(t, f, fd, "hello")
}
