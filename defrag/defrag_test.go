package defrag_test

import (
	"bytes"
	"fmt"
	"math"
	"slices"
	"strings"
	"testing"

	"levee/alloc"
	"levee/api"
	"levee/bits"
	"levee/defrag"
	"levee/disk"
	"levee/file"
	"levee/fs"
	"levee/geo"
	"levee/imove"
	"levee/inode"
	"levee/move"
	"levee/shrink"
	"levee/sync"
	"levee/vol"
)

// perBlocks is what each group of most volumes here has of data blocks: 24, but its header and its table.
const perBlocks = 21

// wrong are numbers that no slot has, and as many blocks as no group has.
var wrong = []int{math.MinInt, math.MinInt + 1, -1 << 40, -4096, -2, -1, 5000, 1 << 32, 1<<32 + 1, math.MaxInt - 1, math.MaxInt}

// shape is that of most volumes here.
func shape(groups int) api.Geo {
	return api.Geo{Group: 24, Inodes: 8, Groups: groups}
}

// block is the n-th data block of a group.
func block(k, n int) int { return 2 + 24*k + 3 + n }

// row are so many numbers, one behind the other.
func row(from, many int) []int {
	var all []int
	for n := range many {
		all = append(all, from+n)
	}
	return all
}

func answers(t *testing.T, what string, got, want api.Errno) {
	t.Helper()
	if got != want {
		t.Errorf("%s: %d, not %d", what, got, want)
	}
}

func calls(t *testing.T, all ...api.Errno) {
	t.Helper()
	for i, e := range all {
		if e != api.OK {
			t.Fatal("call", i, e)
		}
	}
}

// formatted is a disk of so many blocks, that were all written over, with a new volume.
func formatted(t *testing.T, blocks int, g api.Geo) *disk.Disk {
	t.Helper()
	d, _ := disk.Load(bytes.Repeat([]byte{0xee}, blocks*api.Block))
	answers(t, "Format", vol.Format(d, g), api.OK)
	return d
}

// mounted is what puts the things of a disk's volume in order.
func mounted(t *testing.T, d *disk.Disk) *defrag.Defrag {
	t.Helper()
	f, e := fs.Mount(d)
	x := imove.New(move.New(sync.New(f)))
	k := defrag.New(x)
	if e != api.OK || k == nil || k.Slots() != x {
		t.Fatal("Mount", e)
	}
	return k
}

// fresh is a new volume of so many groups, its file system and what puts its things in order.
func fresh(t *testing.T, groups int) (*fs.Fs, *defrag.Defrag) {
	t.Helper()
	k := mounted(t, formatted(t, geo.Size(shape(groups)), shape(groups)))
	return system(k), k
}

func mover(k *defrag.Defrag) *move.Mover { return k.Slots().Mover() }

func system(k *defrag.Defrag) *fs.Fs { return mover(k).Sync().Fs() }

func files(k *defrag.Defrag) *file.Files { return system(k).Nodes().Tree().Dirs().Files() }

func taken(k *defrag.Defrag) *alloc.Alloc { return files(k).Alloc() }

func volume(k *defrag.Defrag) *vol.Vol { return taken(k).Vol() }

func syncs(t *testing.T, k *defrag.Defrag) {
	t.Helper()
	if n, e := mover(k).Sync().Sync(); e != api.OK || !mover(k).Sync().Quiet() {
		t.Errorf("Sync: %d, %d", n, e)
	}
}

// slot is where a path's thing stands.
func slot(t *testing.T, k *defrag.Defrag, path string) int {
	t.Helper()
	way, e := system(k).Nodes().Tree().Walk(path, false)
	if e != api.OK {
		t.Fatal("Walk", path, e)
	}
	return way[len(way)-1]
}

// opened makes a file and opens it.
func opened(t *testing.T, f *fs.Fs, path string) int {
	t.Helper()
	calls(t, f.Create(path))
	fd, e := f.Open(path)
	calls(t, e)
	return fd
}

// writes gives a file some bytes in each of some blocks.
func writes(t *testing.T, f *fs.Fs, fd int, ns ...int) {
	t.Helper()
	for _, n := range ns {
		calls(t, f.Write(fd, int64(n)*api.Block+int64(n%200), []byte(fmt.Sprint("block ", n))))
	}
}

// scattered makes a file with these blocks, none of which stands behind the one ahead.
func scattered(t *testing.T, k *defrag.Defrag, path string, ns ...int) (int, int) {
	t.Helper()
	fd := opened(t, system(k), path)
	for n := len(ns) - 1; n >= 0; n-- {
		writes(t, system(k), fd, ns[n])
	}
	at := slot(t, k, path)
	rows(t, k, at, len(ns))
	return fd, at
}

// rows holds how many rows a thing has.
func rows(t *testing.T, k *defrag.Defrag, slot, want int) {
	t.Helper()
	if n, e := files(k).Extents(slot); n != want || e != api.OK {
		t.Errorf("Extents(%d): %d, %d, not %d", slot, n, e, want)
	}
}

// stands holds the blocks of bytes of a thing.
func stands(t *testing.T, k *defrag.Defrag, slot int, want []int) {
	t.Helper()
	if all, e := files(k).Data(slot); !slices.Equal(all, want) || e != api.OK {
		t.Errorf("Data(%d): %v, %d, not %v", slot, all, e, want)
	}
}

// run holds where n blocks are free.
func run(t *testing.T, k *defrag.Defrag, n, want int) {
	t.Helper()
	if b := k.Run(n); b != want {
		t.Errorf("Run(%d): %d, not %d", n, b, want)
	}
}

// puts holds what File answers.
func puts(t *testing.T, k *defrag.Defrag, slot, was, is int, want api.Errno) {
	t.Helper()
	if a, b, e := k.File(slot); a != was || b != is || e != want {
		t.Errorf("File(%d): %d, %d, %d, not %d, %d, %d", slot, a, b, e, was, is, want)
	}
}

// steps holds what a Step answers.
func steps(t *testing.T, k *defrag.Defrag, over bool, want api.Errno) {
	t.Helper()
	if o, e := k.Step(); o != over || e != want {
		t.Errorf("Step: %t, %d, not %t, %d", o, e, over, want)
	}
	if want != api.ErrNil && want != api.ErrState && k.Busy() == over {
		t.Errorf("Busy: %t, and over: %t", k.Busy(), over)
	}
}

// takes takes all data blocks but some.
func takes(t *testing.T, k *defrag.Defrag, but ...int) {
	t.Helper()
	for g := range volume(k).Geo().Groups {
		first, past := geo.Range(volume(k).Geo(), g)
		for b := first; b < past; b++ {
			if !slices.Contains(but, b) && !taken(k).Taken(b) {
				take(t, k, b)
			}
		}
	}
}

// take takes a data block that is free.
func take(t *testing.T, k *defrag.Defrag, b int) {
	t.Helper()
	_, g := geo.Kind(volume(k).Geo(), b)
	h, e := volume(k).Head(g)
	calls(t, e)
	at, _ := geo.Head(volume(k).Geo(), g)
	set, e := bits.Set(h.Blocks[:], b-at, true)
	calls(t, e)
	copy(h.Blocks[:], set)
	_, e = volume(k).SetHead(g, h)
	calls(t, e)
}

// gives lets data blocks be free at once.
func gives(t *testing.T, k *defrag.Defrag, blocks ...int) {
	t.Helper()
	for _, b := range blocks {
		calls(t, taken(k).FreeBlock(b, 0))
	}
	taken(k).Settle()
}

// same holds that a call changes nothing at all.
func same(t *testing.T, k *defrag.Defrag, what string, call func()) {
	t.Helper()
	state := func() string {
		x, y := system(k).Free()
		return fmt.Sprint(volume(k).Store().Open(), volume(k).Work().List(), k.Busy(), volume(k).Geo(), x, y) + told(t, k.Slots())
	}
	was := state()
	call()
	if state() != was {
		t.Errorf("%s changed something", what)
	}
}

// Of nil, and of nothing that moves things.
func TestNil(t *testing.T) {
	if defrag.New(nil) != nil || defrag.New(new(imove.Slots)) != nil || defrag.New(imove.New(nil)) != nil || defrag.New(imove.New(new(move.Mover))) != nil {
		t.Error("New of nothing that moves things")
	}
	for what, k := range map[string]*defrag.Defrag{"nil": nil, "one that was not made": new(defrag.Defrag)} {
		if k.Slots() != nil {
			t.Errorf("Slots of %s", what)
		}
		for _, n := range append(wrong, 0, 1, 2, 16) {
			run(t, k, n, 0)
			puts(t, k, n, 0, 0, api.ErrNil)
		}
		for range 2 {
			answers(t, "Begin of "+what, k.Begin(), api.ErrNil)
			steps(t, k, false, api.ErrNil)
		}
		if k.Busy() {
			t.Errorf("Busy of %s", what)
		}
	}
}

// placed puts a thing into a slot, in blocks that are taken for it.
func placed(t *testing.T, k *defrag.Defrag, slot, kind int, size int64, blocks ...int) {
	t.Helper()
	i := api.Inode{Kind: kind, Links: 1, Size: size, Id: int64(1000 + slot)}
	copy(i.P[:], blocks)
	for _, b := range blocks {
		if b != 0 && !taken(k).Taken(b) {
			take(t, k, b)
		}
	}
	_, e := files(k).Put(slot, i)
	calls(t, e)
}

// ordered holds that File moves a thing's blocks of bytes to some, its blocks of names not, and changes nothing of what is told; and that its old blocks are free as soon as that is safe.
func ordered(t *testing.T, k *defrag.Defrag, slot, was, is int, want []int) {
	t.Helper()
	text := told(t, k.Slots())
	blocks, slots := system(k).Free()
	old, _ := files(k).Data(slot)
	own, _ := files(k).Owned(slot)
	puts(t, k, slot, was, is, api.OK)
	stands(t, k, slot, want)
	rows(t, k, slot, is)
	now, _ := files(k).Owned(slot)
	isOld := func(b int) bool { return slices.Contains(old, b) }
	isNew := func(b int) bool { return slices.Contains(want, b) }
	if names, others := slices.DeleteFunc(own, isOld), slices.DeleteFunc(now, isNew); !slices.Equal(names, others) {
		t.Errorf("its blocks of names are %v, not %v", others, names)
	}
	if b, s := system(k).Free(); b != blocks-len(want) || s != slots {
		t.Errorf("Free: %d, %d, of %d, %d", b, s, blocks, slots)
	}
	if now := told(t, k.Slots()); now != text {
		t.Error("it tells another tree")
	}
	syncs(t, k)
	if b, s := system(k).Free(); b != blocks || s != slots || slices.ContainsFunc(old, taken(k).Taken) {
		t.Errorf("Free: %d, %d, of %d, %d", b, s, blocks, slots)
	}
}

// The example of the chapter: a file in the blocks 5, 9.
func TestExample(t *testing.T) {
	k := mounted(t, formatted(t, 34, api.Geo{Group: 16, Inodes: 8, Groups: 2}))
	placed(t, k, 2, api.File, 300, 5, 9)
	puts(t, k, 2, 2, 1, api.OK)
	stands(t, k, 2, []int{6, 7})
}

// P25.1: numbers for which there is no Run, whatever is free.
func TestRunOfNone(t *testing.T) {
	_, k := fresh(t, 3)
	for _, n := range append(wrong, 0, perBlocks+1, 24, 25, 63, 64, 128, 129, 4096) {
		run(t, k, n, 0)
	}
	run(t, k, perBlocks, block(0, 0))
	takes(t, k)
	for n := range 30 {
		run(t, k, n, 0)
	}
}

// P25.1: the least one, that may end with its group, or be all of it; none goes over a group's end.
func TestRun(t *testing.T) {
	_, k := fresh(t, 3)
	takes(t, k, slices.Concat(row(block(0, 0), 2), row(block(0, 9), 3), row(block(0, 16), 5), row(block(1, 0), 6), row(block(2, 0), perBlocks))...)
	for n, want := range []int{0, block(0, 0), block(0, 0), block(0, 9), block(0, 16), block(0, 16), block(1, 0)} {
		run(t, k, n, want)
	}
	for n := 7; n <= perBlocks; n++ {
		run(t, k, n, block(2, 0))
	}
	run(t, k, perBlocks+1, 0)
	gives(t, k, block(0, 2))
	run(t, k, 3, block(0, 0))
	take(t, k, block(2, perBlocks-1))
	run(t, k, perBlocks-1, block(2, 0))
	run(t, k, perBlocks, 0)
	take(t, k, block(2, 0))
	run(t, k, perBlocks-2, block(2, 1))
	run(t, k, perBlocks-1, 0)
}

// P25.1: nothing of a group that is frozen.
func TestRunFrozen(t *testing.T) {
	_, k := fresh(t, 3)
	take(t, k, block(1, 7))
	for _, c := range []struct {
		frozen []int
		want   [3]int // of 1, of 13, of all blocks of a group
	}{
		{nil, [3]int{block(0, 0), block(0, 0), block(0, 0)}},
		{[]int{0}, [3]int{block(1, 0), block(1, 8), block(2, 0)}},
		{[]int{0, 2}, [3]int{block(1, 0), block(1, 8), 0}},
		{[]int{2}, [3]int{block(0, 0), block(0, 0), block(0, 0)}},
		{[]int{0, 1, 2}, [3]int{}},
	} {
		for g := range 3 {
			calls(t, taken(k).Freeze(g, slices.Contains(c.frozen, g)))
		}
		run(t, k, 1, c.want[0])
		run(t, k, 13, c.want[1])
		run(t, k, perBlocks, c.want[2])
	}
}

// P25.1: what is given and waits is taken still.
func TestRunWaits(t *testing.T) {
	f, k := fresh(t, 1)
	fd := opened(t, f, "/f")
	writes(t, f, fd, row(0, 9)...)
	run(t, k, 10, block(0, 11))
	calls(t, f.Truncate(fd, 0))
	run(t, k, 11, 0)
	syncs(t, k)
	run(t, k, 20, block(0, 1))
}

// P25.1: of a group whose header can not be read nothing is told.
func TestRunBroken(t *testing.T) {
	for broken := range 3 {
		_, k := fresh(t, 3)
		take(t, k, block(0, 3))
		at, _ := geo.Head(shape(3), broken)
		_, e := volume(k).Store().Patch(at, 0, []byte("x"))
		calls(t, e)
		want := [3][3]int{{block(1, 0), block(1, 0), block(1, 0)}, {block(0, 0), block(0, 4), block(2, 0)}, {block(0, 0), block(0, 4), block(1, 0)}}[broken]
		for i, n := range []int{1, 4, perBlocks} {
			run(t, k, n, want[i])
		}
		run(t, k, perBlocks+1, 0)
		run(t, k, 24, 0)
	}
}

// P25.1: groups of other sizes: the least, and the greatest, whose map has no bit left.
func TestRunShapes(t *testing.T) {
	for _, g := range []api.Geo{{Group: 16, Inodes: 4, Groups: 1}, {Group: 16, Inodes: 44, Groups: 2}, {Group: 128, Inodes: 4, Groups: 16}, {Group: 128, Inodes: 64, Groups: 2}} {
		k := mounted(t, formatted(t, geo.Size(g), g))
		first, past := geo.Range(g, 0)
		run(t, k, past-first, first)
		run(t, k, past-first+1, 0)
		take(t, k, first)
		run(t, k, past-first-1, first+1)
		last, end := geo.Range(g, g.Groups-1)
		for at := range g.Groups - 1 {
			calls(t, taken(k).Freeze(at, true))
		}
		if g.Groups > 1 {
			run(t, k, end-last, last)
			take(t, k, end-2)
			run(t, k, 1, last)
			run(t, k, end-last-1, 0)
		}
	}
}

// P25.1: any blocks that are taken, and any groups that are frozen.
func TestAnyRun(t *testing.T) {
	r := dice(362436069)
	for range 60 {
		g := api.Geo{Group: 16 + r.below(40), Inodes: 8, Groups: 1 + r.below(4)}
		k := mounted(t, formatted(t, geo.Size(g), g))
		many := r.below(30)
		for b := range geo.Size(g) {
			if kind, _ := geo.Kind(g, b); kind == geo.Data && r.below(30) < many {
				take(t, k, b)
			}
		}
		for at := range g.Groups {
			calls(t, taken(k).Freeze(at, r.below(3) == 0))
		}
		for n := -1; n < 60; n++ {
			run(t, k, n, least(k, n))
		}
	}
}

// least is what Run must answer.
func least(k *defrag.Defrag, n int) int {
	for g := range volume(k).Geo().Groups {
		first, past := geo.Range(volume(k).Geo(), g)
		for b := first; b+n <= past && n > 0 && !taken(k).Frozen(g); b++ {
			if !slices.ContainsFunc(row(b, n), taken(k).Taken) {
				return b
			}
		}
	}
	return 0
}

// P25.2: slots that are none, slots without a thing, and inodes that can not be; nothing changes.
func TestFileOfNone(t *testing.T) {
	_, k := fresh(t, 2)
	scattered(t, k, "/f", 0, 1, 2)
	b, place, _ := geo.Place(shape(2), 9)
	_, e := volume(k).Store().Patch(b, place*api.InodeSize, []byte{9})
	calls(t, e)
	same(t, k, "File", func() {
		for _, n := range append(wrong, 16, 17) {
			puts(t, k, n, 0, 0, api.ErrRange)
		}
		for _, n := range []int{0, 3, 8, 15} {
			puts(t, k, n, 0, 0, api.ErrNone)
		}
		puts(t, k, 9, 0, 0, api.ErrForm)
	})
}

// P25.2: of at most one row nothing is moved, wherever that stands, and also if there is no room.
func TestFileOfOneRow(t *testing.T) {
	g := api.Geo{Group: 128, Inodes: 16, Groups: 2}
	k := mounted(t, formatted(t, geo.Size(g), g))
	f := system(k)
	fd := opened(t, f, "/none")
	calls(t, f.Truncate(fd, 5000))
	things := map[int]int{slot(t, k, "/none"): 0}
	for n, from := range []int{0, 2, 4, 6, 30, 68, 400} { // each in one call
		path := fmt.Sprint("/", n)
		fd := opened(t, f, path)
		calls(t, f.Write(fd, int64(from)*api.Block, make([]byte, 3*api.Block)), f.Close(fd))
		things[slot(t, k, path)] = 1
	}
	calls(t, f.Symlink("/1", "/l"))
	things[slot(t, k, "/l")], things[vol.Root] = 1, 2
	writes(t, f, fd, 9)
	things[slot(t, k, "/none")] = 1
	calls(t, f.Truncate(fd, 0))
	things[slot(t, k, "/none")] = 0
	for _, full := range []bool{false, true} {
		if full {
			takes(t, k)
		}
		for at, want := range things {
			if at != vol.Root { // whose names stand in two blocks
				same(t, k, "File", func() { puts(t, k, at, want, want, api.OK) })
			}
		}
	}
	same(t, k, "File", func() { puts(t, k, vol.Root, 2, 2, api.ErrSpace) })
}

// P25.2: blocks of bytes come to stand in the least Run, in their order; blocks of names stay.
func TestFile(t *testing.T) {
	for _, c := range []struct {
		name string
		ns   []int
		is   int
	}{
		{"two blocks", row(0, 2), 1},
		{"all of the inode", row(0, 6), 1},
		{"one by In", row(5, 2), 1},
		{"some by In", row(3, 8), 1},
		{"one by Din", row(69, 2), 1},
		{"over two blocks that Din names", row(132, 4), 1},
		{"holes", []int{0, 1, 3, 4, 5, 9, 12}, 4},
		{"nothing but holes between", []int{1, 4, 6, 69, 71, 300, 4165}, 7},
		{"a hole between blocks of names", []int{68, 69, 70, 133, 134, 200}, 3},
	} {
		_, k := fresh(t, 3)
		_, at := scattered(t, k, "/f", c.ns...)
		to := least(k, len(c.ns))
		ordered(t, k, at, len(c.ns), c.is, row(to, len(c.ns)))
		if c.is == 1 {
			same(t, k, "File again", func() { puts(t, k, at, 1, 1, api.OK) })
		} else {
			ordered(t, k, at, c.is, c.is, row(least(k, len(c.ns)), len(c.ns)))
		}
		if t.Failed() {
			t.Fatal(c.name)
		}
	}
}

// P25.2: a directory of several blocks, and the root.
func TestDirectory(t *testing.T) {
	f, k := fresh(t, 3)
	calls(t, f.Mkdir("/a"), f.Create("/a/x"))
	fd := opened(t, f, "/f")
	for n := range 20 {
		calls(t, f.Link("/a/x", fmt.Sprint("/a/", n)), f.Link("/a/x", fmt.Sprint("/", n)))
		writes(t, f, fd, 30-n)
	}
	calls(t, f.Unlink("/a/3"), f.Rename("/a/7", "/a/8"))
	rows(t, k, slot(t, k, "/a"), 3)
	rows(t, k, vol.Root, 3)
	ordered(t, k, slot(t, k, "/a"), 3, 1, row(least(k, 3), 3))
	ordered(t, k, vol.Root, 3, 1, row(least(k, 3), 3))
	for n := range 20 {
		calls(t, f.Unlink(fmt.Sprint("/", n)))
	}
}

// P25.2: a link of several blocks, that no call makes, and things whose blocks go down.
func TestLink(t *testing.T) {
	_, k := fresh(t, 3)
	for at, kind := range []int{api.Link, api.File, api.Dir} {
		placed(t, k, 3+at, kind, []int64{200, 5 * api.Block, 5 * api.Block}[at], block(2, 3*at+2), block(2, 3*at+1), 0, 0, block(2, 3*at))
		puts(t, k, 3+at, 3, 2, api.OK)
		stands(t, k, 3+at, row(block(0, 3*at), 3))
	}
}

// P25.2: without a Run of as many blocks nothing is moved, though as many are free; with one all are.
func TestNoRun(t *testing.T) {
	_, k := fresh(t, 3)
	_, at := scattered(t, k, "/f", 0, 1, 2, 8, 9)
	syncs(t, k)
	takes(t, k, slices.Concat(row(block(0, 12), 4), row(block(0, perBlocks-3), 3), row(block(1, 0), 4), row(block(2, 8), 4))...)
	same(t, k, "File", func() { puts(t, k, at, 5, 5, api.ErrSpace) })
	gives(t, k, block(1, 4))
	calls(t, taken(k).Freeze(1, true))
	same(t, k, "File", func() { puts(t, k, at, 5, 5, api.ErrSpace) })
	calls(t, taken(k).Freeze(1, false))
	ordered(t, k, at, 5, 2, row(block(1, 0), 5))
}

// freezes freezes the first groups alone.
func freezes(t *testing.T, k *defrag.Defrag, first int) {
	t.Helper()
	for g := range volume(k).Geo().Groups {
		calls(t, taken(k).Freeze(g, g < first))
	}
}

// P25.2: each block goes to its place, also where the Run begins with its group, ends with it, or is all of it; single blocks that are free ahead of it and behind it are passed over.
func TestPlaces(t *testing.T) {
	for g := range 4 {
		for _, c := range []struct{ from, many int }{{0, 2}, {0, 7}, {1, 4}, {7, 6}, {perBlocks - 2, 2}, {perBlocks - 9, 9}, {0, perBlocks}} {
			_, k := fresh(t, 6)
			freezes(t, k, 4)
			_, at := scattered(t, k, "/f", row(0, c.many)...)
			freezes(t, k, 0)
			free := row(block(g, c.from), c.many)
			singles := []int{block((g+1)%4, 5), block((g+2)%4, 0), block((g+3)%4, perBlocks-1)}
			if c.from > 1 {
				singles = append(singles, block(g, c.from-2), block(g, 0))
			}
			if c.from+c.many < perBlocks-1 {
				singles = append(singles, block(g, perBlocks-1))
			}
			takes(t, k, append(singles, free...)...)
			if c.from > 2 {
				take(t, k, block(g, c.from-1))
			}
			ordered(t, k, at, c.many, 1, free)
			if t.Failed() {
				t.Fatal(g, c)
			}
		}
	}
}

// P25.3: Begin and Step when something is under way, and when nothing is.
func TestState(t *testing.T) {
	f, k := fresh(t, 2)
	idle := func() {
		t.Helper()
		same(t, k, "Step", func() { steps(t, k, false, api.ErrState) })
		if k.Busy() {
			t.Error("Busy")
		}
	}
	busy := func() {
		t.Helper()
		same(t, k, "Begin", func() { answers(t, "Begin", k.Begin(), api.ErrState) })
		if !k.Busy() {
			t.Error("not Busy")
		}
	}
	idle()
	for things := 1; things < 5; things++ {
		answers(t, "Begin", k.Begin(), api.OK)
		for left := things; left > 0; left-- {
			busy()
			steps(t, k, left == 1, api.OK)
		}
		idle()
		idle()
		calls(t, f.Create(fmt.Sprint("/", things)))
	}
}

// P25.3: all things, rising, one with each step; Begin itself moves nothing.
func TestSteps(t *testing.T) {
	_, k := fresh(t, 4)
	slots := []int{vol.Root}
	for n := range 5 {
		_, at := scattered(t, k, fmt.Sprint("/", n), 0, 1, 2, 7)
		slots = append(slots, at)
	}
	if to, e := k.Slots().Move(slots[1], 20); to != 21 || e != api.OK {
		t.Fatal("Move", to, e)
	}
	slots = append(slots[2:], 21)
	text := told(t, k.Slots())
	store := volume(k).Store().Open()
	answers(t, "Begin", k.Begin(), api.OK)
	if volume(k).Store().Open() != store {
		t.Error("Begin changed something")
	}
	steps(t, k, false, api.OK) // the root's
	for n, at := range slots {
		rows(t, k, at, 4)
		to := least(k, 4)
		steps(t, k, n == len(slots)-1, api.OK)
		stands(t, k, at, row(to, 4))
		rows(t, k, at, 2)
	}
	if now := told(t, k.Slots()); now != text {
		t.Error("it tells another tree")
	}
	syncs(t, k)
	if b, _ := system(k).Free(); b != 4*perBlocks-1-5*5 {
		t.Errorf("Free: %d", b)
	}
}

// P25.3: one for which there is no Run is passed over, by a step of its own, wherever it stands among the others, for which there is one.
func TestStepWithoutRun(t *testing.T) {
	for large := range 3 {
		_, k := fresh(t, 4)
		var slots []int
		for n := range 3 {
			many := 3
			if n == large {
				many = 6
			}
			_, at := scattered(t, k, fmt.Sprint("/", n), row(0, many)...)
			slots = append(slots, at)
		}
		syncs(t, k)
		free := [][]int{row(block(2, 4), 3), row(block(3, 4), 3)}
		takes(t, k, slices.Concat(free...)...)
		answers(t, "Begin", k.Begin(), api.OK)
		steps(t, k, false, api.OK) // the root's
		for n, at := range slots {
			if n == large {
				store := volume(k).Store().Open()
				steps(t, k, n == 2, api.OK)
				rows(t, k, at, 6)
				if volume(k).Store().Open() != store {
					t.Error("what was passed over was changed")
				}
				continue
			}
			steps(t, k, n == 2, api.OK)
			stands(t, k, at, free[0])
			free = free[1:]
		}
	}
}

// P25.3: one that is not there any more is passed over: its last name is gone, safely or not, it stands in another slot, or its slot went with its group. One that is open is there.
func TestStepGone(t *testing.T) {
	for _, c := range []struct {
		name string
		goes func(f *fs.Fs, k *defrag.Defrag, fd, at int)
		is   int // how many rows the slot's thing has behind its step; 0: it is not there
	}{
		{"no name", func(f *fs.Fs, _ *defrag.Defrag, fd, _ int) { calls(t, f.Close(fd), f.Unlink("/f")) }, 0},
		{"safely no name", func(f *fs.Fs, k *defrag.Defrag, fd, _ int) { calls(t, f.Close(fd), f.Unlink("/f")); syncs(t, k) }, 0},
		{"no name, and open", func(f *fs.Fs, k *defrag.Defrag, _, _ int) { calls(t, f.Unlink("/f")); syncs(t, k) }, 1},
		{"another name", func(f *fs.Fs, k *defrag.Defrag, _, _ int) { calls(t, f.Rename("/f", "/h")) }, 1},
		{"another slot", func(_ *fs.Fs, k *defrag.Defrag, _, at int) {
			_, e := k.Slots().Move(at, 3)
			calls(t, e)
		}, 0},
		{"a slot that went", func(_ *fs.Fs, k *defrag.Defrag, _, _ int) { smaller(t, k, 2) }, 0},
	} {
		f, k := fresh(t, 3)
		fd, at := scattered(t, k, "/f", row(0, 4)...)
		at, e := k.Slots().Move(at, 20)
		calls(t, e)
		_, last := scattered(t, k, "/g", row(0, 3)...)
		last, e = k.Slots().Move(last, 10)
		calls(t, e)
		syncs(t, k)
		answers(t, "Begin", k.Begin(), api.OK)
		c.goes(f, k, fd, at)
		steps(t, k, false, api.OK) // the root's
		steps(t, k, false, api.OK)
		rows(t, k, last, 1)
		was := told(t, k.Slots())
		steps(t, k, true, api.OK)
		if c.is > 0 {
			rows(t, k, at, c.is)
		} else if _, e := files(k).Extents(at); e == api.OK {
			t.Errorf("%s: it is there", c.name)
		}
		if now := told(t, k.Slots()); now != was {
			t.Errorf("%s: it tells another tree", c.name)
		}
	}
}

// smaller lets the volume have fewer groups.
func smaller(t *testing.T, k *defrag.Defrag, groups int) {
	t.Helper()
	s := shrink.New(k.Slots())
	answers(t, "Begin", s.Begin(groups), api.OK)
	for over, e := false, api.OK; !over; {
		over, e = s.Step()
		calls(t, e)
	}
	if volume(k).Geo().Groups != groups {
		t.Fatal("it is not smaller")
	}
}

// P25.3: other errors are told, and the next thing has its turn all the same; it is over behind the last one, also beside an error.
func TestStepError(t *testing.T) {
	_, k := fresh(t, 2)
	var slots []int
	for n := range 3 {
		_, at := scattered(t, k, fmt.Sprint("/", n), 0, 1, 2)
		slots = append(slots, at)
	}
	answers(t, "Begin", k.Begin(), api.OK)
	for _, at := range []int{slots[0], slots[2]} {
		b, place, _ := geo.Place(shape(2), at)
		data, _ := volume(k).Store().Read(b)
		if _, e := inode.Read(data, place); e != api.OK {
			t.Fatal("Read", e)
		}
		_, e := volume(k).Store().Patch(b, place*api.InodeSize, []byte{9})
		calls(t, e)
	}
	steps(t, k, false, api.OK)
	steps(t, k, false, api.ErrForm)
	steps(t, k, false, api.OK)
	rows(t, k, slots[1], 1)
	steps(t, k, true, api.ErrForm)
	steps(t, k, false, api.ErrState)
}

// P25.3: calls between the steps: what comes to be is not gone through, what other calls moved is put in order as it stands then, and each Defrag has a way of its own.
func TestCallsBetween(t *testing.T) {
	f, k := fresh(t, 5)
	other := defrag.New(k.Slots())
	fd, at := scattered(t, k, "/f", row(0, 3)...)
	_, second := scattered(t, k, "/g", row(0, 3)...)
	answers(t, "Begin", k.Begin(), api.OK)
	answers(t, "Begin of another one", other.Begin(), api.OK)
	_, late := scattered(t, k, "/late", row(0, 3)...)
	steps(t, k, false, api.OK)
	writes(t, f, fd, 9, 8)
	calls(t, f.Rename("/g", "/late2"), f.Link("/f", "/f2"))
	rows(t, k, at, 5)
	steps(t, k, false, api.OK)
	rows(t, k, at, 2)
	for n := 3; n < 6; n++ {
		writes(t, f, fd, n)
	}
	_, e := files(k).Move(at, 1, block(3, 7))
	calls(t, e)
	syncs(t, k)
	puts(t, k, second, 3, 1, api.OK)
	steps(t, k, true, api.OK)
	rows(t, k, second, 1)
	rows(t, k, late, 3)
	if was, _ := files(k).Extents(at); was < 3 {
		t.Errorf("Extents: %d", was)
	}
	steps(t, other, false, api.OK)
	steps(t, other, false, api.OK)
	rows(t, k, at, 2)
	steps(t, other, true, api.OK)
	answers(t, "Begin", k.Begin(), api.OK)
	for n := range 4 {
		steps(t, k, n == 3, api.OK)
	}
	rows(t, k, late, 1)
}

// P25.3: without a thing there is one step, and that is the end.
func TestNothingThere(t *testing.T) {
	_, k := fresh(t, 1)
	_, e := volume(k).SetInode(vol.Root, api.Inode{})
	calls(t, e)
	answers(t, "Begin", k.Begin(), api.OK)
	steps(t, k, true, api.OK)
	steps(t, k, false, api.ErrState)
}

// P25.4: nothing of what is open, named or read is another one behind it, and what was given is free behind a Sync.
func TestLarge(t *testing.T) {
	g := api.Geo{Group: 128, Inodes: 16, Groups: 4}
	k := mounted(t, formatted(t, geo.Size(g), g))
	f := system(k)
	fds := []int{opened(t, f, "/a"), opened(t, f, "/b")}
	for n := range 60 {
		for i, fd := range fds {
			calls(t, f.Write(fd, int64(60-n)*api.Block*int64(1+i)+77, []byte(strings.Repeat(fmt.Sprint(n, fd), 40))))
		}
	}
	syncs(t, k)
	blocks, _ := f.Free()
	was := told(t, k.Slots())
	answers(t, "Begin", k.Begin(), api.OK)
	for n := range 3 {
		steps(t, k, n == 2, api.OK)
		if now := told(t, k.Slots()); now != was {
			t.Fatalf("behind step %d it tells another tree", n)
		}
	}
	rows(t, k, slot(t, k, "/a"), 1)
	rows(t, k, slot(t, k, "/b"), 60)
	syncs(t, k)
	if now, _ := f.Free(); now != blocks {
		t.Errorf("Free: %d, of %d", now, blocks)
	}
}
