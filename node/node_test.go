package node_test

import (
	"bytes"
	"fmt"
	"math"
	"slices"
	"strings"
	"testing"

	"levee/alloc"
	"levee/api"
	"levee/dir"
	"levee/disk"
	"levee/file"
	"levee/geo"
	"levee/node"
	"levee/push"
	"levee/tree"
	"levee/vol"
)

// shape is that of most volumes here: 2 times 43 data blocks.
var shape = api.Geo{Group: 48, Inodes: 16, Groups: 2}

// far are numbers that no slot has.
var far = []int{math.MinInt, math.MinInt + 1, -4096, -2, -1, 32, 1024, 65536, math.MaxInt - 1, math.MaxInt}

// noNames are texts that name nothing.
var noNames = []string{"", ".", "..", "/", "a/", "/a", "a\x00", "\x00", strings.Repeat("x", 25), strings.Repeat("x", 1000)}

func answers(t *testing.T, what string, got, want api.Errno) {
	t.Helper()
	if got != want {
		t.Errorf("%s: %d, not %d", what, got, want)
	}
}

// fresh is the things of a new volume whose data blocks were written over.
func fresh(t *testing.T, g api.Geo) *node.Nodes {
	t.Helper()
	d, _ := disk.Load(bytes.Repeat([]byte{0xee}, geo.Size(g)*api.Block))
	answers(t, "Format", vol.Format(d, g), api.OK)
	return mounted(t, d)
}

func mounted(t *testing.T, d *disk.Disk) *node.Nodes {
	t.Helper()
	v, e := vol.Mount(d)
	if e != api.OK {
		t.Fatal("Mount", e)
	}
	x := tree.New(dir.New(file.New(alloc.New(v))))
	n := node.New(x)
	if n == nil || n.Tree() != x {
		t.Fatal("New", n)
	}
	return n
}

func files(n *node.Nodes) *file.Files { return n.Tree().Dirs().Files() }

func volume(n *node.Nodes) *vol.Vol { return files(n).Alloc().Vol() }

// made makes a thing, and must be let.
func made(t *testing.T, n *node.Nodes, dir int, name string, kind int) int {
	t.Helper()
	var b []byte
	if kind == api.Link {
		b = []byte("/path")
	}
	slot, e := n.Make(dir, name, kind, b)
	if slot < 2 || e != api.OK {
		t.Fatalf("Make(%d, %q, %d): %d, %d", dir, name, kind, slot, e)
	}
	return slot
}

// names holds the entries of a directory, in any order.
func names(t *testing.T, n *node.Nodes, dir int, want map[string]int) {
	t.Helper()
	list, e := n.Tree().Dirs().List(dir)
	got := map[string]int{}
	for _, entry := range list {
		got[entry.Name] = entry.Slot
		if entry.Leaving {
			t.Errorf("%q is Leaving", entry.Name)
		}
	}
	if e != api.OK || fmt.Sprint(got) != fmt.Sprint(want) || len(list) != len(got) {
		t.Errorf("the directory %d has %v, %d, not %v", dir, list, e, want)
	}
}

// links holds how many a thing has; -1: there is no thing.
func links(t *testing.T, n *node.Nodes, slot, want int) {
	t.Helper()
	s, e := n.Stat(slot)
	if want < 0 && (e != api.ErrNone || s != api.Stat{}) || want >= 0 && (e != api.OK || s.Links != want) {
		t.Errorf("Stat(%d): %v, %d, not %d links", slot, s, e, want)
	}
}

// free holds how many blocks and slots are free.
func free(t *testing.T, n *node.Nodes, blocks, slots int) {
	t.Helper()
	if b, s := files(n).Alloc().Free(); b != blocks || s != slots {
		t.Errorf("Free: %d, %d, not %d, %d", b, s, blocks, slots)
	}
}

// settle makes all safe, and what was given free.
func settle(n *node.Nodes) {
	for range 3 {
		push.All(volume(n).Store())
		files(n).Alloc().Settle()
	}
}

// same tells whether nothing has changed since a call of it.
func same(n *node.Nodes) func() bool {
	open := volume(n).Store().Open()
	blocks, slots := files(n).Alloc().Free()
	work := volume(n).Work().Len()
	return func() bool {
		b, s := files(n).Alloc().Free()
		return open == volume(n).Store().Open() && b == blocks && s == slots && work == volume(n).Work().Len()
	}
}

// refuses holds the error of Make, that must change nothing.
func refuses(t *testing.T, n *node.Nodes, dir int, name string, kind int, b []byte, want api.Errno) {
	t.Helper()
	was := same(n)
	if slot, e := n.Make(dir, name, kind, b); slot != 0 || e != want {
		t.Errorf("Make(%d, %q, %d, %q): %d, %d, not %d", dir, name, kind, b, slot, e, want)
	}
	if !was() {
		t.Errorf("Make(%d, %q, %d, %q) was refused, and something is changed", dir, name, kind, b)
	}
}

// denies holds the error of another call, that must change nothing.
func denies(t *testing.T, n *node.Nodes, what string, want api.Errno, call func() api.Errno) {
	t.Helper()
	was := same(n)
	answers(t, what, call(), want)
	if !was() {
		t.Errorf("%s: something is changed", what)
	}
}

func joins(t *testing.T, n *node.Nodes, dir int, name string, slot int, want api.Errno) {
	t.Helper()
	what := fmt.Sprintf("Join(%d, %q, %d)", dir, name, slot)
	call := func() api.Errno { return n.Join(dir, name, slot) }
	if want != api.OK {
		denies(t, n, what, want, call)
	} else {
		answers(t, what, call(), want)
	}
}

func cuts(t *testing.T, n *node.Nodes, dir int, name string, want api.Errno) {
	t.Helper()
	what := fmt.Sprintf("Cut(%d, %q)", dir, name)
	call := func() api.Errno { return n.Cut(dir, name) }
	if want != api.OK {
		denies(t, n, what, want, call)
	} else {
		answers(t, what, call(), want)
	}
}

func shifts(t *testing.T, n *node.Nodes, from int, name string, to int, other string, want api.Errno) {
	t.Helper()
	what := fmt.Sprintf("Shift(%d, %q, %d, %q)", from, name, to, other)
	call := func() api.Errno { return n.Shift(from, name, to, other) }
	if want != api.OK {
		denies(t, n, what, want, call)
	} else {
		answers(t, what, call(), want)
	}
}

// opens opens a slot, and must get a number, or an error.
func opens(t *testing.T, n *node.Nodes, slot, want int, e api.Errno) {
	t.Helper()
	if fd, f := n.Open(slot); fd != want || f != e {
		t.Errorf("Open(%d): %d, %d, not %d, %d", slot, fd, f, want, e)
	}
}

// leave takes blocks till so many are free.
func leave(t *testing.T, n *node.Nodes, blocks int) {
	t.Helper()
	for {
		b, _ := files(n).Alloc().Free()
		if b == blocks {
			return
		}
		if _, _, e := files(n).Alloc().Block(0); b < blocks || e != api.OK {
			t.Fatal("Block", b, e)
		}
	}
}

// more gives so many blocks back: the last ones, that leave took.
func more(t *testing.T, n *node.Nodes, blocks int) {
	t.Helper()
	for b := geo.Size(volume(n).Geo()); b > 0; b-- {
		if blocks > 0 && files(n).Alloc().Taken(b) && files(n).Alloc().FreeBlock(b, 0) == api.OK {
			blocks--
		}
	}
	files(n).Alloc().Settle()
	if blocks > 0 {
		t.Fatal("too few blocks are taken")
	}
}

// Of nil, and of a tree of no volume: whatever is asked.
func TestNil(t *testing.T) {
	if node.New(nil) != nil || (*node.Nodes)(nil).Tree() != nil || new(node.Nodes).Tree() != nil {
		t.Error("New of nil")
	}
	for _, n := range []*node.Nodes{nil, new(node.Nodes), node.New(new(tree.Tree)), node.New(tree.New(new(dir.Dirs))), node.New(tree.New(dir.New(new(file.Files))))} {
		for _, x := range append([]int{0, 1, 2, 7}, far...) {
			for _, name := range append([]string{"a"}, noNames...) {
				slot, e := n.Make(x, name, x, []byte(name))
				if slot != 0 || e != api.ErrNil {
					t.Errorf("Make: %d, %d", slot, e)
				}
				answers(t, "Join", n.Join(x, name, x), api.ErrNil)
				answers(t, "Cut", n.Cut(x, name), api.ErrNil)
				answers(t, "Shift", n.Shift(x, name, x, name), api.ErrNil)
			}
			opens(t, n, x, 0, api.ErrNil)
			answers(t, "Close", n.Close(x), api.ErrNil)
			if slot, e := n.Slot(x); slot != 0 || e != api.ErrNil {
				t.Errorf("Slot: %d, %d", slot, e)
			}
			if s, e := n.Stat(x); s != (api.Stat{}) || e != api.ErrNil {
				t.Errorf("Stat: %v, %d", s, e)
			}
			if n.Opens(x) != 0 || n.Turn(x, 1) != 0 || n.Turn(0, x) != 0 {
				t.Errorf("Opens, Turn of %d", x)
			}
		}
	}
}

// P18.1: things of each kind, each with a number of its own, in slots near their directories.
func TestMake(t *testing.T) {
	n := fresh(t, shape)
	f, d := made(t, n, vol.Root, "f", api.File), made(t, n, vol.Root, "d", api.Dir)
	l, e := n.Make(vol.Root, "l", api.Link, []byte("../x"))
	if f != 2 || d != 3 || l != 4 || e != api.OK {
		t.Error("slots", f, d, l, e)
	}
	for slot, want := range map[int]api.Stat{1: {Id: 1, Kind: api.Dir, Size: 256, Links: 1}, f: {Id: 2, Kind: api.File, Links: 1}, d: {Id: 3, Kind: api.Dir, Links: 1}, l: {Id: 4, Kind: api.Link, Size: 4, Links: 1}} {
		if s, e := n.Stat(slot); s != want || e != api.OK {
			t.Errorf("Stat(%d): %v, %d, not %v", slot, s, e, want)
		}
	}
	if s, e := n.Tree().Target(l); s != "../x" || e != api.OK {
		t.Error("Target", s, e)
	}
	names(t, n, vol.Root, map[string]int{"f": f, "d": d, "l": l})
	free(t, n, 84, 27) // the root's block, the link's
	if slot := made(t, n, d, "f", api.File); slot != 5 {
		t.Error("a slot near 3:", slot)
	}
	other, _, _ := files(n).Alloc().Slot(31)
	files(n).Put(other, api.Inode{Kind: api.Dir, Links: 1, Id: 100})
	if slot := made(t, n, other, "f", api.File); other != 16 || slot != 17 {
		t.Error("a slot near the first one of another group:", other, slot)
	}
	for _, size := range []int{1, 254, 255} {
		path := strings.Repeat("p", size)
		slot, e := n.Make(d, fmt.Sprint(size), api.Link, []byte(path))
		if s, f := n.Tree().Target(slot); s != path || e != api.OK || f != api.OK {
			t.Errorf("a link of %d bytes: %q, %d, %d", size, s, e, f)
		}
	}
	if slot, e := n.Make(d, strings.Repeat("n", 24), api.File, []byte{}); slot == 0 || e != api.OK {
		t.Error("Make", slot, e)
	}
	settle(n)
	refuses(t, n, d, strings.Repeat("n", 24), api.File, nil, api.ErrThere)
}

// P18.1: what can not be made, and which error comes first.
func TestMakeWrong(t *testing.T) {
	n := fresh(t, shape)
	f, l := made(t, n, vol.Root, "f", api.File), made(t, n, vol.Root, "l", api.Link)
	long := []byte(strings.Repeat("x", 256))
	for _, dir := range append([]int{vol.Root, f, l, 0, 9}, far...) {
		for _, name := range append([]string{"a", "f"}, noNames...) {
			for _, kind := range []int{math.MinInt, -1, api.Free, 4, 255, 256 + api.File, math.MaxInt} {
				refuses(t, n, dir, name, kind, nil, api.ErrArg)
				refuses(t, n, dir, name, kind, []byte("x"), api.ErrArg)
			}
			refuses(t, n, dir, name, api.File, []byte("x"), api.ErrArg)
			refuses(t, n, dir, name, api.Dir, []byte("x"), api.ErrArg)
			refuses(t, n, dir, name, api.Link, nil, api.ErrArg)
			refuses(t, n, dir, name, api.Link, []byte{}, api.ErrArg)
			refuses(t, n, dir, name, api.Link, long, api.ErrArg)
		}
	}
	wrong := map[int]api.Errno{f: api.ErrNotDir, l: api.ErrNotDir, 0: api.ErrNone, 9: api.ErrNone}
	for _, slot := range far {
		wrong[slot] = api.ErrRange
	}
	for slot, want := range wrong {
		for _, name := range append([]string{"a", "f"}, noNames...) {
			refuses(t, n, slot, name, api.File, nil, want)
			refuses(t, n, slot, name, api.Link, []byte("x"), want)
		}
	}
	leave(t, n, 0)
	for _, name := range noNames {
		refuses(t, n, vol.Root, name, api.File, nil, api.ErrName)
	}
	refuses(t, n, vol.Root, "f", api.Dir, nil, api.ErrThere)
	refuses(t, n, vol.Root, "a", api.Dir, nil, api.ErrSpace)
	more(t, n, 20)
	if s, _ := n.Stat(made(t, n, vol.Root, "a", api.File)); s.Id != 4 {
		t.Error("refused calls took numbers:", s)
	}
}

// P18.1: no free slot; what is given and waits, and what is frozen, is not free.
func TestNoSlot(t *testing.T) {
	n := fresh(t, shape)
	for k := range 29 {
		made(t, n, vol.Root, fmt.Sprint(k), api.File)
	}
	files(n).Alloc().Freeze(1, true)
	refuses(t, n, vol.Root, "x", api.File, nil, api.ErrSpace)
	files(n).Alloc().Freeze(1, false)
	last := made(t, n, vol.Root, "x", api.Link)
	for _, kind := range []int{api.File, api.Dir} {
		refuses(t, n, vol.Root, "y", kind, nil, api.ErrSpace)
	}
	refuses(t, n, vol.Root, "y", api.Link, []byte("x"), api.ErrSpace)
	joins(t, n, vol.Root, "y", last, api.OK) // needs none
	cuts(t, n, vol.Root, "7", api.OK)
	refuses(t, n, vol.Root, "z", api.File, nil, api.ErrSpace)
	settle(n)
	if slot := made(t, n, vol.Root, "z", api.File); slot != 9 {
		t.Error("the slot that is free:", slot)
	}
	refuses(t, n, vol.Root, "zz", api.File, nil, api.ErrSpace)
}

// P18.1: fewer blocks than Room, or, of a Link, than it needs together.
func TestRoom(t *testing.T) {
	if node.Room != 4 {
		t.Error("Room", node.Room)
	}
	n := fresh(t, shape)
	made(t, n, vol.Root, "a", api.File) // the root has a block
	leave(t, n, 3)
	refuses(t, n, vol.Root, "f", api.File, nil, api.ErrSpace)
	refuses(t, n, vol.Root, "f", api.Dir, nil, api.ErrSpace)
	refuses(t, n, vol.Root, "f", api.Link, []byte("x"), api.ErrSpace)
	joins(t, n, vol.Root, "f", 2, api.ErrSpace)
	shifts(t, n, vol.Root, "a", vol.Root, "b", api.ErrSpace)
	more(t, n, 1)
	made(t, n, vol.Root, "f", api.File)
	made(t, n, vol.Root, "d", api.Dir)
	joins(t, n, vol.Root, "g", 2, api.OK)
	shifts(t, n, vol.Root, "a", vol.Root, "b", api.OK)
	shifts(t, n, vol.Root, "b", vol.Root, "f", api.OK)
	refuses(t, n, vol.Root, "l", api.Link, []byte("x"), api.ErrSpace)
	more(t, n, 3)
	free(t, n, 7, 27)
	refuses(t, n, vol.Root, "l", api.Link, []byte("x"), api.ErrSpace)
	refuses(t, n, vol.Root, "l", api.Link, []byte(strings.Repeat("x", 255)), api.ErrSpace)
	more(t, n, 1)
	if _, e := n.Make(vol.Root, "l", api.Link, []byte(strings.Repeat("x", 255))); e != api.OK {
		t.Error("Make", e)
	}
	free(t, n, 7, 26)
	cuts(t, n, vol.Root, "l", api.OK)
	free(t, n, 7, 26) // what was given waits
	refuses(t, n, vol.Root, "m", api.Link, []byte("x"), api.ErrSpace)
	leave(t, n, 0)
	cuts(t, n, vol.Root, "g", api.OK) // needs none
	shifts(t, n, vol.Root, "d", vol.Root, "d", api.OK)
}

// A name more that needs a block more: with Room it is always there.
func TestRoomForBlock(t *testing.T) {
	n := fresh(t, shape)
	made(t, n, vol.Root, "0", api.File)
	for k := 1; k < 8*6; k++ {
		joins(t, n, vol.Root, fmt.Sprint(k), 2, api.OK)
	}
	leave(t, n, 4) // the seventh block needs one of names, too
	joins(t, n, vol.Root, "48", 2, api.OK)
	free(t, n, 2, 29)
	joins(t, n, vol.Root, "49", 2, api.ErrSpace)
	links(t, n, 2, 49)
}

// What a directory can not take, for it has as many blocks as can be, is refused ahead of any change.
func TestFullDirectory(t *testing.T) {
	n := fresh(t, shape)
	d, f := made(t, n, vol.Root, "d", api.Dir), made(t, n, vol.Root, "f", api.File)
	for k := range 8 {
		joins(t, n, d, fmt.Sprint(k), f, api.OK)
	}
	answers(t, "Resize", files(n).Resize(d, api.MaxFile*api.Block), api.OK)
	refuses(t, n, d, "x", api.File, nil, api.ErrBig)
	refuses(t, n, d, "x", api.Link, []byte("x"), api.ErrBig)
	joins(t, n, d, "x", f, api.ErrBig)
	shifts(t, n, vol.Root, "f", d, "x", api.ErrBig)
	made(t, n, vol.Root, "e", api.Dir)
	shifts(t, n, vol.Root, "e", d, "x", api.ErrBig)
	shifts(t, n, vol.Root, "f", d, "3", api.OK) // the same thing
	g := made(t, n, vol.Root, "g", api.File)
	shifts(t, n, vol.Root, "g", d, "3", api.OK) // there is a place
	links(t, n, f, 8)
	cuts(t, n, d, "5", api.OK)
	shifts(t, n, vol.Root, "f", d, "x", api.OK)
	joins(t, n, d, "y", g, api.ErrBig)
}

// P18.1: when no number is left, nothing is made.
func TestNoNumber(t *testing.T) {
	d, _ := disk.New(geo.Size(shape))
	answers(t, "Format", vol.Format(d, shape), api.OK)
	n := mounted(t, d)
	files(n).Put(5, api.Inode{Kind: api.File, Links: 1, Id: 1<<62 - 1})
	settle(n)
	n = mounted(t, d)
	if s, _ := n.Stat(made(t, n, vol.Root, "last", api.File)); s.Id != 1<<62 {
		t.Error("the last number", s)
	}
	refuses(t, n, vol.Root, "a", api.File, nil, api.ErrFull)
	refuses(t, n, vol.Root, "a", api.Link, []byte("x"), api.ErrFull)
	refuses(t, n, vol.Root, "last", api.File, nil, api.ErrThere)
}

// Bytes that are handed in are not kept.
func TestOwnMemory(t *testing.T) {
	n := fresh(t, shape)
	b := []byte("/some/path")
	slot, _ := n.Make(vol.Root, "l", api.Link, b)
	if string(b) != "/some/path" {
		t.Error("Make changed", b)
	}
	clear(b)
	if s, _ := n.Tree().Target(slot); s != "/some/path" {
		t.Errorf("Target: %q", s)
	}
}

// P18.1: names more, for files and links.
func TestJoin(t *testing.T) {
	n := fresh(t, shape)
	f, l, d := made(t, n, vol.Root, "f", api.File), made(t, n, vol.Root, "l", api.Link), made(t, n, vol.Root, "d", api.Dir)
	joins(t, n, vol.Root, "f2", f, api.OK)
	joins(t, n, d, "f", f, api.OK)
	joins(t, n, d, "l", l, api.OK)
	links(t, n, f, 3)
	links(t, n, l, 2)
	names(t, n, vol.Root, map[string]int{"f": f, "f2": f, "l": l, "d": d})
	names(t, n, d, map[string]int{"f": f, "l": l})
	leave(t, n, 0)
	all := append([]string{"a", "f"}, noNames...)
	for _, name := range all {
		for _, dir := range append([]int{vol.Root, f, 0, 9}, far...) {
			for _, slot := range far {
				joins(t, n, dir, name, slot, api.ErrRange)
			}
			joins(t, n, dir, name, 0, api.ErrNone)
			joins(t, n, dir, name, 9, api.ErrNone)
			joins(t, n, dir, name, vol.Root, api.ErrIsDir)
			joins(t, n, dir, name, d, api.ErrIsDir)
		}
		for _, dir := range far {
			joins(t, n, dir, name, f, api.ErrRange)
		}
		joins(t, n, 0, name, f, api.ErrNone)
		joins(t, n, f, name, f, api.ErrNotDir)
		joins(t, n, l, name, f, api.ErrNotDir)
	}
	for _, name := range noNames {
		joins(t, n, d, name, f, api.ErrName)
	}
	joins(t, n, d, "l", f, api.ErrThere)
	joins(t, n, d, "f", f, api.ErrThere)
	joins(t, n, d, "a", f, api.ErrSpace)
}

// P18.1: a thing with MaxLinks names.
func TestMaxLinks(t *testing.T) {
	n := fresh(t, shape)
	f, g := made(t, n, vol.Root, "f", api.File), made(t, n, vol.Root, "g", api.File)
	i, _ := files(n).Get(f)
	i.Links = api.MaxLinks - 1
	files(n).Put(f, i)
	joins(t, n, vol.Root, "last", f, api.OK)
	links(t, n, f, 1000)
	joins(t, n, vol.Root, "more", f, api.ErrLinks)
	for _, name := range noNames {
		joins(t, n, vol.Root, name, f, api.ErrName)
	}
	joins(t, n, vol.Root, "g", f, api.ErrThere)
	joins(t, n, g, "more", f, api.ErrNotDir)
	shifts(t, n, vol.Root, "last", vol.Root, "g", api.OK) // needs no link
	links(t, n, f, 1000)
	leave(t, n, 0)
	joins(t, n, vol.Root, "more", f, api.ErrLinks)
	cuts(t, n, vol.Root, "g", api.OK)
	links(t, n, f, 999)
	joins(t, n, vol.Root, "more", f, api.ErrSpace)
}

// P18.2: names less, until none is left.
func TestCut(t *testing.T) {
	n := fresh(t, shape)
	f, d := made(t, n, vol.Root, "f", api.File), made(t, n, vol.Root, "d", api.Dir)
	l, e := made(t, n, d, "l", api.Link), made(t, n, d, "e", api.Dir)
	joins(t, n, d, "f", f, api.OK)
	answers(t, "Write", files(n).Write(f, 0, make([]byte, 300)), api.OK)
	for _, name := range append([]string{"x"}, noNames...) {
		cuts(t, n, vol.Root, name, api.ErrNone)
		cuts(t, n, f, name, api.ErrNotDir)
		cuts(t, n, l, name, api.ErrNotDir)
		cuts(t, n, 0, name, api.ErrNone)
		cuts(t, n, 9, name, api.ErrNone)
		for _, dir := range far {
			cuts(t, n, dir, name, api.ErrRange)
		}
	}
	cuts(t, n, vol.Root, "d", api.ErrFilled)
	cuts(t, n, vol.Root, "f", api.OK)
	links(t, n, f, 1)
	names(t, n, vol.Root, map[string]int{"d": d})
	cuts(t, n, d, "f", api.OK)
	links(t, n, f, -1)
	cuts(t, n, d, "l", api.OK)
	cuts(t, n, vol.Root, "d", api.ErrFilled)
	links(t, n, l, -1)
	cuts(t, n, d, "e", api.OK)
	links(t, n, e, -1)
	names(t, n, d, map[string]int{})
	cuts(t, n, d, "e", api.ErrNone)
	cuts(t, n, vol.Root, "d", api.OK)
	links(t, n, d, -1)
	cuts(t, n, d, "e", api.ErrNone)
	names(t, n, vol.Root, map[string]int{})
	settle(n)
	free(t, n, 85, 30)
	if x, y, _ := files(n).Alloc().Used(0); x != 1 || y != 0 {
		t.Error("Used", x, y)
	}
}

// P18.2: which things are open, by which numbers.
func TestOpen(t *testing.T) {
	n := fresh(t, shape)
	f, g := made(t, n, vol.Root, "f", api.File), made(t, n, vol.Root, "g", api.File)
	l, d := made(t, n, vol.Root, "l", api.Link), made(t, n, vol.Root, "d", api.Dir)
	was := same(n)
	wrong := map[int]api.Errno{vol.Root: api.ErrIsDir, d: api.ErrIsDir, l: api.ErrArg, 0: api.ErrNone, 9: api.ErrNone}
	for _, slot := range far {
		wrong[slot] = api.ErrRange
	}
	refused := func() {
		for slot, want := range wrong {
			opens(t, n, slot, 0, want)
			if n.Opens(slot) != 0 {
				t.Errorf("Opens(%d): %d", slot, n.Opens(slot))
			}
		}
	}
	refused()
	for fd := range api.MaxOpen {
		opens(t, n, []int{f, g}[fd%2], fd, api.OK)
	}
	refused()
	opens(t, n, f, 0, api.ErrFiles)
	if n.Opens(f) != 4 || n.Opens(g) != 4 {
		t.Error("Opens", n.Opens(f), n.Opens(g))
	}
	for fd := range api.MaxOpen {
		if slot, e := n.Slot(fd); slot != []int{f, g}[fd%2] || e != api.OK {
			t.Errorf("Slot(%d): %d, %d", fd, slot, e)
		}
	}
	for _, fd := range []int{math.MinInt, -8, -1, 8, 9, 256, math.MaxInt} {
		if slot, e := n.Slot(fd); slot != 0 || e != api.ErrFd {
			t.Errorf("Slot(%d): %d, %d", fd, slot, e)
		}
		answers(t, "Close", n.Close(fd), api.ErrFd)
	}
	for _, fd := range []int{5, 2, 7} {
		answers(t, "Close", n.Close(fd), api.OK)
		answers(t, "Close again", n.Close(fd), api.ErrFd)
		if slot, e := n.Slot(fd); slot != 0 || e != api.ErrFd {
			t.Errorf("Slot(%d): %d, %d", fd, slot, e)
		}
	}
	for _, fd := range []int{2, 5, 7} {
		opens(t, n, f, fd, api.OK)
	}
	opens(t, n, f, 0, api.ErrFiles)
	if n.Opens(f) != 6 || n.Opens(g) != 2 {
		t.Error("Opens", n.Opens(f), n.Opens(g))
	}
	if !was() {
		t.Error("to be open is a change")
	}
}

// P18.2, P18.5: what is open is there, until its last Close.
func TestOpenWithoutName(t *testing.T) {
	n := fresh(t, shape)
	f := made(t, n, vol.Root, "f", api.File)
	answers(t, "Write", files(n).Write(f, 0, []byte("here")), api.OK)
	opens(t, n, f, 0, api.OK)
	opens(t, n, f, 1, api.OK)
	cuts(t, n, vol.Root, "f", api.OK)
	links(t, n, f, 0)
	settle(n)
	if b, e := files(n).Read(f, 0, 9); string(b) != "here" || e != api.OK {
		t.Errorf("Read: %q, %d", b, e)
	}
	answers(t, "Write", files(n).Write(f, 4, []byte(" still")), api.OK)
	g := made(t, n, vol.Root, "f", api.File) // another one by that name
	if g == f {
		t.Error("its slot was taken anew")
	}
	answers(t, "Close", n.Close(1), api.OK)
	links(t, n, f, 0)
	opens(t, n, f, 1, api.OK)
	answers(t, "Close", n.Close(0), api.OK)
	if b, e := files(n).Read(f, 0, 99); string(b) != "here still" || e != api.OK || n.Opens(f) != 1 {
		t.Errorf("Read: %q, %d", b, e)
	}
	answers(t, "Close", n.Close(1), api.OK)
	links(t, n, f, -1)
	opens(t, n, f, 0, api.ErrNone)
	settle(n)
	free(t, n, 85, 29)
	names(t, n, vol.Root, map[string]int{"f": g})
}

// P18.2: what is closed and has a name stays; what has none gets one.
func TestNameAgain(t *testing.T) {
	n := fresh(t, shape)
	f := made(t, n, vol.Root, "f", api.File)
	opens(t, n, f, 0, api.OK)
	answers(t, "Close", n.Close(0), api.OK)
	links(t, n, f, 1)
	opens(t, n, f, 0, api.OK)
	cuts(t, n, vol.Root, "f", api.OK)
	joins(t, n, vol.Root, "g", f, api.OK)
	links(t, n, f, 1)
	answers(t, "Close", n.Close(0), api.OK)
	links(t, n, f, 1)
	cuts(t, n, vol.Root, "g", api.OK)
	links(t, n, f, -1)
}

// P18.2: what is open of a slot is open of another one.
func TestTurn(t *testing.T) {
	n := fresh(t, shape)
	f, g := made(t, n, vol.Root, "f", api.File), made(t, n, vol.Root, "g", api.File)
	for _, slot := range []int{f, g, f} {
		n.Open(slot)
	}
	was := same(n)
	for _, x := range append([]int{0, 1, 9}, far...) {
		if n.Turn(x, f) != 0 || n.Turn(x, x) != 0 {
			t.Error("Turn of what is not open", x)
		}
	}
	if k := n.Turn(f, f); k != 2 || n.Opens(f) != 2 {
		t.Error("Turn", k)
	}
	if k := n.Turn(f, 9); k != 2 || n.Opens(f) != 0 || n.Opens(9) != 2 || n.Opens(g) != 1 {
		t.Error("Turn", k)
	}
	for fd, want := range []int{9, g, 9} {
		if slot, e := n.Slot(fd); slot != want || e != api.OK {
			t.Errorf("Slot(%d): %d, %d", fd, slot, e)
		}
	}
	if k := n.Turn(g, 9); k != 1 || n.Opens(9) != 3 {
		t.Error("Turn", k)
	}
	for _, x := range far {
		if k := n.Turn(9, x); k != 3 || n.Opens(x) != 3 || n.Turn(x, 9) != 3 {
			t.Error("Turn to", x, k)
		}
	}
	n.Turn(9, -1)
	answers(t, "Close of what is nowhere", n.Close(1), api.OK)
	if k := n.Turn(-1, f); k != 2 || !was() {
		t.Error("Turn", k)
	}
	cuts(t, n, vol.Root, "f", api.OK)
	links(t, n, f, 0)
	n.Close(0)
	links(t, n, f, 0)
	n.Close(2)
	links(t, n, f, -1)
}

// P18.2: what is told of things.
func TestStat(t *testing.T) {
	n := fresh(t, shape)
	f := made(t, n, vol.Root, "f", api.File)
	answers(t, "Write", files(n).Write(f, 1000, []byte("x")), api.OK)
	joins(t, n, vol.Root, "g", f, api.OK)
	if s, e := n.Stat(f); s != (api.Stat{Id: 2, Kind: api.File, Size: 1001, Links: 2}) || e != api.OK {
		t.Error("Stat", s, e)
	}
	wrong := map[int]api.Errno{0: api.ErrNone, 9: api.ErrNone}
	for _, slot := range far {
		wrong[slot] = api.ErrRange
	}
	block, at, _ := geo.Place(shape, 7)
	volume(n).Store().Patch(block, at*api.InodeSize, []byte{77})
	wrong[7] = api.ErrForm
	for slot, want := range wrong {
		if s, e := n.Stat(slot); s != (api.Stat{}) || e != want {
			t.Errorf("Stat(%d): %v, %d, not %d", slot, s, e, want)
		}
	}
	opens(t, n, 7, 0, api.ErrForm)
	joins(t, n, vol.Root, "x", 7, api.ErrForm)
	refuses(t, n, 7, "x", api.File, nil, api.ErrForm)
	cuts(t, n, 7, "x", api.ErrForm)
	shifts(t, n, 7, "x", vol.Root, "x", api.ErrForm)
	shifts(t, n, vol.Root, "f", 7, "x", api.ErrForm)
}

// P18.3: a thing's name is another one, in any directory.
func TestShift(t *testing.T) {
	n := fresh(t, shape)
	f, d := made(t, n, vol.Root, "f", api.File), made(t, n, vol.Root, "d", api.Dir)
	e, l := made(t, n, d, "e", api.Dir), made(t, n, d, "l", api.Link)
	before, _ := n.Stat(f)
	shifts(t, n, vol.Root, "f", vol.Root, "g", api.OK)
	names(t, n, vol.Root, map[string]int{"g": f, "d": d})
	shifts(t, n, vol.Root, "g", e, "f", api.OK)
	names(t, n, vol.Root, map[string]int{"d": d})
	names(t, n, e, map[string]int{"f": f})
	shifts(t, n, d, "e", vol.Root, "e", api.OK)
	names(t, n, vol.Root, map[string]int{"d": d, "e": e})
	names(t, n, d, map[string]int{"l": l})
	shifts(t, n, d, "l", e, strings.Repeat("x", 24), api.OK)
	names(t, n, e, map[string]int{"f": f, strings.Repeat("x", 24): l})
	shifts(t, n, vol.Root, "d", e, "d", api.OK)
	shifts(t, n, e, "d", e, "c", api.OK)
	names(t, n, vol.Root, map[string]int{"e": e})
	names(t, n, e, map[string]int{"f": f, strings.Repeat("x", 24): l, "c": d})
	if after, _ := n.Stat(f); after != before {
		t.Error("Stat", after, before)
	}
	for _, slot := range []int{f, d, e, l} {
		links(t, n, slot, 1)
	}
}

// P18.3: in the place of what the name named.
func TestShiftOver(t *testing.T) {
	n := fresh(t, shape)
	f, g, l := made(t, n, vol.Root, "f", api.File), made(t, n, vol.Root, "g", api.File), made(t, n, vol.Root, "l", api.Link)
	d, e := made(t, n, vol.Root, "d", api.Dir), made(t, n, vol.Root, "e", api.Dir)
	joins(t, n, d, "g", g, api.OK)
	opens(t, n, l, 0, api.ErrArg)
	opens(t, n, g, 0, api.OK)
	place := func(name string) int { _, at, _ := n.Tree().Dirs().Find(vol.Root, name); return at }
	at := place("g")
	shifts(t, n, vol.Root, "f", vol.Root, "g", api.OK)
	if place("g") != at {
		t.Error("the new name stands at another place:", place("g"))
	}
	names(t, n, vol.Root, map[string]int{"g": f, "l": l, "d": d, "e": e})
	links(t, n, f, 1)
	links(t, n, g, 1) // the other name
	shifts(t, n, vol.Root, "l", d, "g", api.OK)
	links(t, n, g, 0) // it is open
	answers(t, "Close", n.Close(0), api.OK)
	links(t, n, g, -1)
	shifts(t, n, vol.Root, "g", d, "g", api.OK)
	links(t, n, l, -1)
	names(t, n, vol.Root, map[string]int{"d": d, "e": e})
	shifts(t, n, vol.Root, "d", vol.Root, "e", api.OK) // a directory in the place of an empty one
	links(t, n, e, -1)
	names(t, n, vol.Root, map[string]int{"e": d})
	names(t, n, d, map[string]int{"g": f})
	settle(n)
	free(t, n, 84, 28)
}

// P18.3: to another name of the same thing: nothing, not even if no block is free.
func TestShiftSame(t *testing.T) {
	n := fresh(t, shape)
	f, d := made(t, n, vol.Root, "f", api.File), made(t, n, vol.Root, "d", api.Dir)
	joins(t, n, vol.Root, "g", f, api.OK)
	joins(t, n, d, "f", f, api.OK)
	made(t, n, d, "x", api.File)
	leave(t, n, 0)
	was := same(n)
	shifts(t, n, vol.Root, "f", vol.Root, "f", api.OK)
	shifts(t, n, vol.Root, "f", vol.Root, "g", api.OK)
	shifts(t, n, vol.Root, "f", d, "f", api.OK)
	shifts(t, n, d, "f", vol.Root, "g", api.OK)
	shifts(t, n, vol.Root, "d", vol.Root, "d", api.OK)
	if !was() {
		t.Error("something is changed")
	}
	names(t, n, vol.Root, map[string]int{"f": f, "g": f, "d": d})
	links(t, n, f, 3)
}

// P18.3: what is refused, and which error comes first.
func TestShiftWrong(t *testing.T) {
	n := fresh(t, shape)
	f, l, d := made(t, n, vol.Root, "f", api.File), made(t, n, vol.Root, "l", api.Link), made(t, n, vol.Root, "d", api.Dir)
	e := made(t, n, vol.Root, "e", api.Dir)
	made(t, n, e, "x", api.Dir)
	leave(t, n, 0)
	wrong := map[int]api.Errno{f: api.ErrNotDir, l: api.ErrNotDir, 0: api.ErrNone, 9: api.ErrNone}
	for _, slot := range far {
		wrong[slot] = api.ErrRange
	}
	all := append([]string{"f", "x"}, noNames...)
	for slot, want := range wrong {
		for _, name := range all {
			for _, other := range all {
				shifts(t, n, slot, name, vol.Root, other, want)
				shifts(t, n, slot, name, math.MinInt, other, want)
			}
			shifts(t, n, vol.Root, "f", slot, name, want)
		}
		shifts(t, n, vol.Root, "x", slot, "x", api.ErrNone)
	}
	for _, name := range append([]string{"x"}, noNames...) {
		for _, other := range all {
			shifts(t, n, vol.Root, name, vol.Root, other, api.ErrNone)
		}
	}
	for _, other := range noNames {
		shifts(t, n, vol.Root, "f", vol.Root, other, api.ErrName)
		shifts(t, n, vol.Root, "d", d, other, api.ErrName)
	}
	shifts(t, n, vol.Root, "d", vol.Root, "f", api.ErrNotDir)
	shifts(t, n, vol.Root, "d", vol.Root, "l", api.ErrNotDir)
	shifts(t, n, vol.Root, "f", vol.Root, "d", api.ErrIsDir)
	shifts(t, n, vol.Root, "f", vol.Root, "e", api.ErrIsDir)
	shifts(t, n, vol.Root, "l", vol.Root, "e", api.ErrIsDir)
	shifts(t, n, vol.Root, "d", vol.Root, "e", api.ErrFilled)
	shifts(t, n, e, "x", vol.Root, "e", api.ErrFilled) // it stands in it itself
	shifts(t, n, vol.Root, "f", vol.Root, "l", api.ErrSpace)
	shifts(t, n, vol.Root, "e", vol.Root, "d", api.ErrSpace)
	shifts(t, n, vol.Root, "f", d, "new", api.ErrSpace)
}

// P18.3: whether a directory comes below itself is not asked; all calls end even so.
func TestShiftBelow(t *testing.T) {
	n := fresh(t, shape)
	d := made(t, n, vol.Root, "d", api.Dir)
	e := made(t, n, d, "e", api.Dir)
	f := made(t, n, vol.Root, "f", api.File)
	shifts(t, n, vol.Root, "d", e, "d", api.OK)
	names(t, n, e, map[string]int{"d": d})
	shifts(t, n, vol.Root, "f", e, "f", api.OK)
	shifts(t, n, e, "d", d, "self", api.OK)
	names(t, n, d, map[string]int{"e": e, "self": d})
	shifts(t, n, e, "f", d, "f", api.OK)
	links(t, n, f, 1)
	cuts(t, n, d, "self", api.ErrFilled)
	settle(n)
	made(t, n, vol.Root, "g", api.File)
}

// Directories that one comes to again and again from the root: all calls end.
func TestRound(t *testing.T) {
	n := fresh(t, shape)
	d := made(t, n, vol.Root, "d", api.Dir)
	e := made(t, n, d, "e", api.Dir)
	f := made(t, n, vol.Root, "f", api.File)
	for name, slot := range map[string]int{"root": vol.Root, "self": e, "up": d} {
		n.Tree().Dirs().Add(e, name, slot)
	}
	shifts(t, n, vol.Root, "f", e, "f", api.OK)
	shifts(t, n, e, "f", d, "f", api.OK)
	shifts(t, n, e, "self", d, "e2", api.OK)
	cuts(t, n, e, "root", api.ErrFilled)
	links(t, n, f, 1)
}

// Entries of slots without things go, and change nothing else.
func TestEntryOfNothing(t *testing.T) {
	n := fresh(t, shape)
	dirs := n.Tree().Dirs()
	dirs.Add(vol.Root, "none", 9)
	dirs.Add(vol.Root, "far", 1023)
	f := made(t, n, vol.Root, "f", api.File)
	shifts(t, n, vol.Root, "none", vol.Root, "still", api.OK)
	shifts(t, n, vol.Root, "f", vol.Root, "far", api.OK)
	cuts(t, n, vol.Root, "still", api.OK)
	names(t, n, vol.Root, map[string]int{"far": f})
	links(t, n, f, 1)
	files(n).Put(f, api.Inode{Kind: api.File, Id: 2}) // no links, and a name
	cuts(t, n, vol.Root, "far", api.OK)
	links(t, n, f, -1)
}

// waits tells whether a change waits for all of some others.
func waits(n *node.Nodes, id int64, others ...int64) bool {
	all := volume(n).Store().Waits(id)
	return len(others) > 0 && !slices.ContainsFunc(others, func(x int64) bool { return !slices.Contains(all, x) })
}

// last is the last change of a slot's thing.
func last(n *node.Nodes, slot int) int64 {
	all := files(n).Changes(slot)
	return all[len(all)-1]
}

// The order of changes, call by call.
func TestOrder(t *testing.T) {
	n := fresh(t, shape)
	a, b := made(t, n, vol.Root, "a", api.Dir), made(t, n, vol.Root, "b", api.Dir)
	settle(n)
	f, e := n.Make(a, "l", api.Link, []byte("/some/where"))
	header, _ := geo.Head(shape, 0)
	taken := int64(0)
	for id := int64(1); id < files(n).Changes(f)[0]; id++ {
		if at, e := volume(n).Store().Block(id); e == api.OK && at == header {
			taken = id
		}
	}
	if e != api.OK || taken == 0 || !waits(n, files(n).Changes(f)[0], taken) {
		t.Error("the inode does not wait for its slot, that is taken by", taken)
	}
	if made := files(n).Changes(f); len(made) < 2 || !waits(n, last(n, a), made...) {
		t.Error("the name does not wait for the thing")
	}
	files(n).Put(f, api.Inode{Kind: api.File, Links: 1, Id: 4})
	answers(t, "Write", files(n).Write(f, 0, []byte("bytes")), api.OK)
	joins(t, n, b, "l", f, api.OK)
	if !waits(n, last(n, b), files(n).Changes(f)...) {
		t.Error("the name more does not wait for the thing")
	}
	cuts(t, n, a, "l", api.OK)
	if !waits(n, last(n, f), last(n, a)) {
		t.Error("the link less does not wait for the name that went")
	}
	shifts(t, n, b, "l", a, "m", api.OK)
	if !waits(n, last(n, b), last(n, a)) || !waits(n, last(n, f), last(n, b)) {
		t.Error("the old name does not wait for the new one")
	}
	cuts(t, n, a, "m", api.OK)
	if !waits(n, last(n, f), last(n, a)) || !waits(n, last(n, f), last(n, b)) {
		t.Error("the thing's end does not wait for its names'")
	}
}

// Example 1 of the chapter.
func TestExample(t *testing.T) {
	n := fresh(t, shape)
	if slot := made(t, n, 1, "a", api.File); slot != 2 {
		t.Error("Make", slot)
	}
	opens(t, n, 2, 0, api.OK)
	cuts(t, n, 1, "a", api.OK)
	links(t, n, 2, 0)
	answers(t, "Close", n.Close(0), api.OK)
	links(t, n, 2, -1)
}
