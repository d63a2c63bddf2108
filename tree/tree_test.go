package tree_test

import (
	"fmt"
	"math"
	"slices"
	"strings"
	"testing"

	"levee/alloc"
	"levee/api"
	"levee/dir"
	"levee/disk"
	"levee/file"
	"levee/geo"
	"levee/tree"
	"levee/vol"
)

// shape is that of most volumes here.
var shape = api.Geo{Group: 64, Inodes: 16, Groups: 2}

// far are numbers that no slot has.
var far = []int{math.MinInt, math.MinInt + 1, -4096, -2, -1, 32, 1024, 65536, math.MaxInt - 1, math.MaxInt}

// noPaths are texts that can not be paths.
var noPaths = []string{"", "a\x00", "/a\x00/b", "\x00", "/\x00", strings.Repeat("x", 25), "/" + strings.Repeat("x", 25), "/a/" + strings.Repeat("x", 25) + "/b",
	strings.Repeat("/", 256), strings.Repeat("./", 128), strings.Repeat("a/", 17), strings.Repeat("/a", 17), "/.." + strings.Repeat("/a", 16), strings.Repeat("../", 17), strings.Repeat("x", 70000)}

func answers(t *testing.T, what string, got, want api.Errno) {
	t.Helper()
	if got != want {
		t.Errorf("%s: %d, not %d", what, got, want)
	}
}

// fresh is the tree of a new volume.
func fresh(t *testing.T, g api.Geo) (*tree.Tree, *vol.Vol) {
	t.Helper()
	d, _ := disk.New(geo.Size(g))
	answers(t, "Format", vol.Format(d, g), api.OK)
	v, e := vol.Mount(d)
	if e != api.OK {
		t.Fatal("Mount", e)
	}
	dirs := dir.New(file.New(alloc.New(v)))
	x := tree.New(dirs)
	if x == nil || x.Dirs() != dirs {
		t.Fatal("New", x)
	}
	return x, v
}

// thing puts a thing into a slot, without a name.
func thing(t *testing.T, x *tree.Tree, slot, kind int) {
	t.Helper()
	if _, e := x.Dirs().Files().Put(slot, api.Inode{Kind: kind, Links: 1, Id: int64(slot)}); e != api.OK {
		t.Fatalf("Put(%d): %d", slot, e)
	}
}

// link puts a link into a slot, without a name.
func link(t *testing.T, x *tree.Tree, slot int, path string) {
	t.Helper()
	f := x.Dirs().Files()
	_, e := f.Put(slot, api.Inode{Kind: api.Link, Links: 1, Size: int64(len(path)), Id: int64(slot)})
	if e != api.OK || f.Write(slot, 0, []byte(path)) != api.OK {
		t.Fatalf("link %d to %q: %d", slot, path, e)
	}
}

func add(t *testing.T, x *tree.Tree, dir int, name string, slot int) {
	t.Helper()
	if _, e := x.Dirs().Add(dir, name, slot); e != api.OK {
		t.Fatalf("Add(%d, %q): %d", dir, name, e)
	}
}

// filled is a tree: /a 2, /a/b 3, /a/b/f 4 (a file), /c 5, /f 6 (a file), and of each link a name in the root: its slot is from 10 on.
func filled(t *testing.T, links ...string) *tree.Tree {
	t.Helper()
	x, _ := fresh(t, shape)
	for slot, kind := range map[int]int{2: api.Dir, 3: api.Dir, 4: api.File, 5: api.Dir, 6: api.File} {
		thing(t, x, slot, kind)
	}
	add(t, x, 1, "a", 2)
	add(t, x, 2, "b", 3)
	add(t, x, 3, "f", 4)
	add(t, x, 1, "c", 5)
	add(t, x, 1, "f", 6)
	for k, path := range links {
		link(t, x, 10+k, path)
		add(t, x, 1, fmt.Sprint("l", k), 10+k)
	}
	return x
}

// walks holds the way of a path.
func walks(t *testing.T, x *tree.Tree, path string, through bool, want ...int) {
	t.Helper()
	if way, e := x.Walk(path, through); e != api.OK || !slices.Equal(way, want) {
		t.Errorf("Walk(%q, %v): %v, %d, not %v", path, through, way, e, want)
	}
}

// lost holds the error of a path that leads nowhere.
func lost(t *testing.T, x *tree.Tree, path string, through bool, want api.Errno) {
	t.Helper()
	if way, e := x.Walk(path, through); e != want || len(way) != 0 {
		t.Errorf("Walk(%q, %v): %v, %d, not %d", path, through, way, e, want)
	}
}

// parent holds the way of a path's directory, and its last name.
func parent(t *testing.T, x *tree.Tree, path, name string, want ...int) {
	t.Helper()
	if way, last, e := x.Parent(path); e != api.OK || last != name || !slices.Equal(way, want) {
		t.Errorf("Parent(%q): %v, %q, %d, not %v, %q", path, way, last, e, want, name)
	}
}

// orphan holds the error of a path that has no directory.
func orphan(t *testing.T, x *tree.Tree, path string, want api.Errno) {
	t.Helper()
	if way, last, e := x.Parent(path); e != want || len(way) != 0 || last != "" {
		t.Errorf("Parent(%q): %v, %q, %d, not %d", path, way, last, e, want)
	}
}

// Of nil, and of directories of no volume: whatever is asked.
func TestNil(t *testing.T) {
	if tree.New(nil) != nil || (*tree.Tree)(nil).Dirs() != nil || new(tree.Tree).Dirs() != nil {
		t.Error("New of nil")
	}
	empty := tree.New(new(dir.Dirs))
	for _, x := range []*tree.Tree{nil, new(tree.Tree), empty, tree.New(dir.New(new(file.Files)))} {
		for _, path := range append([]string{"/", "/a", "a", "/..", "/a/.."}, noPaths...) {
			lost(t, x, path, true, api.ErrNil)
			lost(t, x, path, false, api.ErrNil)
			orphan(t, x, path, api.ErrNil)
		}
		for _, slot := range append([]int{0, 1, 2}, far...) {
			if s, e := x.Target(slot); s != "" || e != api.ErrNil {
				t.Errorf("Target(%d): %q, %d", slot, s, e)
			}
		}
	}
}

// P17.1: the names of paths.
func TestSplit(t *testing.T) {
	name := strings.Repeat("n", 24)
	long := strings.Repeat(name+"/", 10)
	for path, want := range map[string]string{
		"/": "", "//": "", ".": "", "./": "", "/.": "", "/./.": "", strings.Repeat("/", 255): "",
		"a": "a", "a/": "a", "/a": "a", "//a//": "a", "./a": "a", "a/.": "a", "/a/b": "a b", "a/./b//c/.": "a b c",
		"..": "..", "/..": "..", "../..": ".. ..", "a/..": "a ..", "/../a": ".. a", "...": "...", "..a": "..a", ".a": ".a", "a.": "a.", "a..b": "a..b",
		name: name, "/" + name: name, "\xff\x01": "\xff\x01", "ä/ö": "ä ö", "a b\nc": "a b\nc", "\\": "\\",
		strings.Repeat("a/", 16):                            strings.TrimSpace(strings.Repeat("a ", 16)),
		strings.Repeat("../", 16):                           strings.TrimSpace(strings.Repeat(".. ", 16)),
		"/" + strings.Repeat("./a//", 16):                   strings.TrimSpace(strings.Repeat("a ", 16)),
		strings.Repeat("a/", 16) + strings.Repeat("./", 50): strings.TrimSpace(strings.Repeat("a ", 16)),
		long + "abcde":                                      strings.ReplaceAll(long, "/", " ") + "abcde",
	} {
		names, root, e := tree.Split(path)
		if strings.Join(names, " ") != want || root != strings.HasPrefix(path, "/") || e != api.OK {
			t.Errorf("Split(%q): %q, %v, %d", path, names, root, e)
		}
	}
	for _, path := range append(noPaths, long+"abcdef", strings.Repeat("/", 256)) {
		if names, root, e := tree.Split(path); len(names) != 0 || root || e != api.ErrName {
			t.Errorf("Split(%q): %q, %v, %d", path, names, root, e)
		}
	}
}

// P17.1: each byte in the place of a name's.
func TestSplitBytes(t *testing.T) {
	for b := range 256 {
		path := "/x" + string([]byte{byte(b)}) + "y"
		names, _, e := tree.Split(path)
		switch {
		case b == 0:
			answers(t, path, e, api.ErrName)
		case b == '/':
			if !slices.Equal(names, []string{"x", "y"}) {
				t.Errorf("Split(%q): %q", path, names)
			}
		case e != api.OK || !slices.Equal(names, []string{path[1:]}):
			t.Errorf("Split(%q): %q, %d", path, names, e)
		}
	}
}

// P17.1: of slots of each kind.
func TestTarget(t *testing.T) {
	x := filled(t, "../c", "/", strings.Repeat("x", 255), "\x00", "a")
	for slot, want := range map[int]string{10: "../c", 11: "/", 12: strings.Repeat("x", 255), 13: "\x00", 14: "a"} {
		if s, e := x.Target(slot); s != want || e != api.OK {
			t.Errorf("Target(%d): %q, %d", slot, s, e)
		}
	}
	x.Dirs().Files().Put(17, api.Inode{Kind: api.Link, Links: 1, Size: 3, Id: 17}) // a hole
	if s, e := x.Target(17); s != "\x00\x00\x00" || e != api.OK {
		t.Errorf("Target(17): %q, %d", s, e)
	}
	wrong := map[int]api.Errno{0: api.ErrNone, 1: api.ErrArg, 2: api.ErrArg, 4: api.ErrArg, 6: api.ErrArg, 20: api.ErrNone, 31: api.ErrNone}
	for _, slot := range far {
		wrong[slot] = api.ErrRange
	}
	for slot, want := range wrong {
		if s, e := x.Target(slot); s != "" || e != want {
			t.Errorf("Target(%d): %q, %d, not %d", slot, s, e, want)
		}
	}
}

// P17.1: of a slot whose inode can not be; on a way it is no directory.
func TestBroken(t *testing.T) {
	x, v := fresh(t, shape)
	add(t, x, 1, "bad", 8)
	add(t, x, 1, "none", 9)
	add(t, x, 1, "far", 1023)
	block, at, _ := geo.Place(v.Geo(), 8)
	v.Store().Patch(block, at*api.InodeSize, []byte{77})
	if s, e := x.Target(8); s != "" || e != api.ErrForm {
		t.Errorf("Target: %q, %d", s, e)
	}
	for name, slot := range map[string]int{"bad": 8, "none": 9, "far": 1023} {
		walks(t, x, "/"+name, true, 1, slot)
		walks(t, x, "/"+name, false, 1, slot)
		parent(t, x, "/"+name, name, 1)
		lost(t, x, "/"+name+"/a", true, api.ErrNotDir)
		lost(t, x, "/"+name+"/..", true, api.ErrNotDir)
		orphan(t, x, "/"+name+"/a", api.ErrNotDir)
	}
}

// P17.2, P17.3: ways without links.
func TestWalk(t *testing.T) {
	x := filled(t)
	for path, want := range map[string][]int{
		"/": {1}, "//": {1}, "/.": {1}, "/..": {1}, "/../..": {1}, "/a": {1, 2}, "/a/": {1, 2}, "//a/.": {1, 2}, "/a/b": {1, 2, 3}, "/a/./b//": {1, 2, 3},
		"/a/b/f": {1, 2, 3, 4}, "/a/b/f/": {1, 2, 3, 4}, "/f": {1, 6}, "/f/.": {1, 6}, "/c": {1, 5}, "/a/..": {1}, "/a/../..": {1}, "/a/../../c": {1, 5},
		"/a/b/..": {1, 2}, "/a/b/../..": {1}, "/a/b/../b/f": {1, 2, 3, 4}, "/a/b/../../c/../f": {1, 6}, "/../../../f": {1, 6},
	} {
		walks(t, x, path, true, want...)
		walks(t, x, path, false, want...)
	}
	for path, want := range map[string]api.Errno{
		"a": api.ErrName, ".": api.ErrName, "..": api.ErrName, "a/b": api.ErrName, "./a": api.ErrName,
		"/x": api.ErrNone, "/a/x": api.ErrNone, "/x/y": api.ErrNone, "/x/..": api.ErrNone, "/A": api.ErrNone, "/a/b/c": api.ErrNone, "/c/f": api.ErrNone, "/aa": api.ErrNone,
		"/f/x": api.ErrNotDir, "/f/..": api.ErrNotDir, "/f/../a": api.ErrNotDir, "/a/b/f/f": api.ErrNotDir, "/a/b/f/..": api.ErrNotDir, "/f/x/..": api.ErrNotDir,
	} {
		lost(t, x, path, true, want)
		lost(t, x, path, false, want)
	}
	for _, path := range noPaths {
		lost(t, x, path, true, api.ErrName)
		lost(t, x, path, false, api.ErrName)
	}
}

// P17.2: the longest paths, of the deepest directories.
func TestDeep(t *testing.T) {
	x, _ := fresh(t, shape)
	name := strings.Repeat("n", 24)
	path, way := "", []int{1}
	for slot := 2; slot < 18; slot++ {
		thing(t, x, slot, api.Dir)
		add(t, x, slot-1, "d", slot)
		add(t, x, slot-1, name, slot)
		path += "/d"
		way = append(way, slot)
	}
	walks(t, x, path, true, way...)
	walks(t, x, path+strings.Repeat("/", 255-len(path)), true, way...)
	parent(t, x, path, "d", way[:16]...)
	lost(t, x, path+"/d", true, api.ErrName)
	lost(t, x, path+"/..", true, api.ErrName)
	lost(t, x, path+strings.Repeat("/", 256-len(path)), true, api.ErrName)
	long := strings.Repeat("/"+name, 10) + "/d/./"
	walks(t, x, long, true, way[:12]...)
	lost(t, x, long+"/", true, api.ErrName)
	walks(t, x, strings.Repeat("/..", 16), true, 1)
	thing(t, x, 21, api.Dir)
	link(t, x, 22, path+"/deep")
	add(t, x, 17, "deep", 21)
	add(t, x, 1, "l", 22)
	lost(t, x, "/l", true, api.ErrName)      // its path has 17 names
	link(t, x, 23, strings.Repeat("d/", 16)) // by this one comes deeper than by any path alone
	add(t, x, 1, "m", 23)
	walks(t, x, "/m/deep", true, append(slices.Clone(way), 21)...)
	walks(t, x, "/m/deep/../../..", true, way[:15]...)
}

// P17.2: links gone through, in the middle always, at the end if it is asked.
func TestLinks(t *testing.T) {
	x := filled(t, "/a", "a/b", ".", "/", "..", "a/b/f", "/l0/b", "l1/..", "x", "f/x", "./a//b/./f/", "/x/y")
	for path, want := range map[string][]int{
		"/l0": {1, 2}, "/l0/": {1, 2}, "/l0/b": {1, 2, 3}, "/l1": {1, 2, 3}, "/l1/f": {1, 2, 3, 4}, "/l1/..": {1, 2}, "/l2": {1}, "/l2/a": {1, 2}, "/l3": {1}, "/l3/c": {1, 5},
		"/l4": {1}, "/l4/l4/f": {1, 6}, "/l5": {1, 2, 3, 4}, "/l6": {1, 2, 3}, "/l6/f": {1, 2, 3, 4}, "/l7": {1, 2}, "/l7/b": {1, 2, 3}, "/l2/l2/l2": {1}, "/a/../l0/../l1/..": {1, 2}, "/l10": {1, 2, 3, 4},
	} {
		walks(t, x, path, true, want...)
	}
	for path, want := range map[string][]int{
		"/l0": {1, 10}, "/l0/": {1, 10}, "/l0/.": {1, 10}, "//l0//.//": {1, 10}, "/l0/b": {1, 2, 3}, "/l1/f": {1, 2, 3, 4}, "/l1/..": {1, 2}, "/l2/l2/l2": {1, 12}, "/l8": {1, 18}, "/l9": {1, 19}, "/l3/l3": {1, 13}, "/l0/../l1": {1, 11},
	} {
		walks(t, x, path, false, want...)
	}
	for path, want := range map[string]api.Errno{"/l5/x": api.ErrNotDir, "/l5/..": api.ErrNotDir, "/l8/a": api.ErrNone, "/l8/..": api.ErrNone, "/l9/a": api.ErrNotDir, "/l11/a": api.ErrNone, "/l0/x": api.ErrNone} {
		lost(t, x, path, true, want)
		lost(t, x, path, false, want)
	}
	for path, want := range map[string]api.Errno{"/l8": api.ErrNone, "/l9": api.ErrNotDir, "/l11": api.ErrNone} {
		lost(t, x, path, true, want)
	}
}

// P17.2: a link goes on from where it stands, or from the root; not from where the way came by.
func TestLinkFromWhereItStands(t *testing.T) {
	x := filled(t)
	link(t, x, 10, "../c")
	add(t, x, 2, "l", 10) // in /a
	link(t, x, 11, "f")
	add(t, x, 3, "l", 11) // in /a/b
	link(t, x, 12, "/f")
	add(t, x, 3, "m", 12)
	link(t, x, 13, "../../../..")
	add(t, x, 3, "u", 13)
	link(t, x, 14, "a/b/l")
	add(t, x, 1, "l", 14)
	walks(t, x, "/a/l", true, 1, 5)
	walks(t, x, "/a/./l/", false, 1, 2, 10)
	walks(t, x, "/a/l/..", true, 1)
	walks(t, x, "/a/b/l", true, 1, 2, 3, 4)
	walks(t, x, "/a/b/m", true, 1, 6)
	walks(t, x, "/a/b/u", true, 1)
	walks(t, x, "/a/b/u/a/b/u/f", true, 1, 6)
	walks(t, x, "/l", true, 1, 2, 3, 4)
	lost(t, x, "/a/l/f", true, api.ErrNone)
	lost(t, x, "/a/b/l/..", true, api.ErrNotDir)
}

// P17.2: eight links on a way, and the ninth; the count goes over the whole way.
func TestLoop(t *testing.T) {
	x := filled(t, "f", "l0", "l1", "l2", "l3", "l4", "l5", "l6", "l7", "l9", ".", "/", "/l9/..")
	walks(t, x, "/l7", true, 1, 6)
	walks(t, x, "/l7", false, 1, 17)
	lost(t, x, "/l8", true, api.ErrLoop)
	walks(t, x, "/l8", false, 1, 18)
	lost(t, x, "/l9", true, api.ErrLoop)
	lost(t, x, "/l9/f", false, api.ErrLoop)
	walks(t, x, "/l9", false, 1, 19)
	lost(t, x, "/l12", true, api.ErrLoop)
	for l, slot := range map[string]int{"/l10": 20, "/l11": 21} {
		walks(t, x, strings.Repeat(l, 8), true, 1)
		walks(t, x, strings.Repeat(l, 8)+"/f", true, 1, 6)
		lost(t, x, strings.Repeat(l, 9), true, api.ErrLoop)
		walks(t, x, strings.Repeat(l, 9), false, 1, slot)
		lost(t, x, strings.Repeat(l, 9)+"/f", false, api.ErrLoop)
		parent(t, x, strings.Repeat(l, 9), l[1:], 1)
		orphan(t, x, strings.Repeat(l, 9)+"/f", api.ErrLoop)
	}
	walks(t, x, "/l10/l5", true, 1, 6)
	walks(t, x, "/l10/l6", true, 1, 6)
	lost(t, x, "/l10/l7", true, api.ErrLoop)
}

// P17.2: a link whose path can not be; as the ninth one it is ErrLoop; what is not there is so ahead of it.
func TestWrongLinks(t *testing.T) {
	x := filled(t, "\x00", strings.Repeat("x", 25), strings.Repeat("a/", 17), "a/\x00/b", ".", strings.Repeat("/", 255))
	for _, l := range []string{"/l0", "/l1", "/l2", "/l3"} {
		lost(t, x, l, true, api.ErrName)
		lost(t, x, l+"/a", false, api.ErrName)
		orphan(t, x, l+"/a", api.ErrName)
		parent(t, x, l, l[1:], 1)
		lost(t, x, strings.Repeat("/l4", 7)+l, true, api.ErrName)
		lost(t, x, strings.Repeat("/l4", 8)+l, true, api.ErrLoop)
	}
	lost(t, x, "/x/l0", true, api.ErrNone)
	lost(t, x, "/f/l0", true, api.ErrNotDir)
	lost(t, x, "/l0/x/y", true, api.ErrName)
	walks(t, x, "/l5", true, 1)
}

// P17.2: directories of paths.
func TestParent(t *testing.T) {
	x := filled(t, "/a", "a/b", "/l0/b", "f", ".", "x")
	for path, want := range map[string][]int{
		"/x": {1}, "/x/": {1}, "/a": {1}, "/./a": {1}, "/../a": {1}, "/a/new": {1, 2}, "/a//new/.": {1, 2}, "/a/b/f": {1, 2, 3}, "/a/../c": {1}, "/l0/x": {1, 2}, "/l1/x": {1, 2, 3}, "/l2/x": {1, 2, 3},
		"/l0": {1}, "/l3": {1}, "/l5": {1}, "/l4/l4/l4": {1}, "/l1/../x": {1, 2}, "/f": {1},
	} {
		names, _, _ := tree.Split(path)
		parent(t, x, path, names[len(names)-1], want...)
	}
	for path, want := range map[string]api.Errno{
		"/": api.ErrArg, "//": api.ErrArg, "/.": api.ErrArg, "/..": api.ErrArg, "/a/..": api.ErrArg, "/x/..": api.ErrArg, "/a/../": api.ErrArg, "/f/../.": api.ErrArg,
		"a": api.ErrName, "..": api.ErrName, ".": api.ErrName, "a/..": api.ErrName, "/x/y": api.ErrNone, "/a/x/y": api.ErrNone, "/f/x": api.ErrNotDir, "/a/b/f/x": api.ErrNotDir, "/f/x/y": api.ErrNotDir,
		"/l3/x": api.ErrNotDir, "/l5/x": api.ErrNone, "/f/../x": api.ErrNotDir,
	} {
		orphan(t, x, path, want)
	}
	for _, path := range noPaths {
		orphan(t, x, path, api.ErrName)
	}
}

// P17.2: of a root that is no directory any more.
func TestNoRoot(t *testing.T) {
	x := filled(t)
	thing(t, x, vol.Root, api.File)
	walks(t, x, "/", true, 1)
	lost(t, x, "/a", true, api.ErrNotDir)
	lost(t, x, "/..", true, api.ErrNotDir)
	orphan(t, x, "/a", api.ErrNotDir)
	orphan(t, x, "/", api.ErrArg)
}

// What is written into an answer, or behind it, no other one sees; asking changes nothing.
func TestOwnMemory(t *testing.T) {
	x := filled(t, "/a/b", "..")
	store := x.Dirs().Files().Alloc().Vol().Store()
	open := store.Open()
	for range 3 {
		for _, path := range []string{"/", "/..", "/a/b/f", "/l0/f/", "/a/b/..", "/l1/a/b"} {
			before, _ := x.Walk(path, true)
			want := slices.Clone(before)
			for i := range before {
				before[i] = -7
			}
			_ = append(before, -8, -9)
			walks(t, x, path, true, want...)
		}
		way, _, _ := x.Parent("/a/b/f")
		_ = append(way, -8)
		way[0] = -7
		parent(t, x, "/a/b/f", "f", 1, 2, 3)
		names, _, _ := tree.Split("/a/b")
		names[0] = "z"
		if again, _, _ := tree.Split("/a/b"); !slices.Equal(again, []string{"a", "b"}) {
			t.Error("Split", again)
		}
	}
	if store.Open() != open {
		t.Error("asking made changes")
	}
}

// What is done beside a tree it sees.
func TestSees(t *testing.T) {
	x := filled(t)
	lost(t, x, "/c/new", true, api.ErrNone)
	add(t, x, 5, "new", 4)
	walks(t, x, "/c/new", true, 1, 5, 4)
	x.Dirs().Turn(5, "new", 3)
	walks(t, x, "/c/new/f", true, 1, 5, 3, 4)
	x.Dirs().Remove(1, "c")
	lost(t, x, "/c/new", true, api.ErrNone)
	link(t, x, 12, "/a")
	add(t, x, 1, "c", 12)
	walks(t, x, "/c/b", true, 1, 2, 3)
}

// Example 1 of the chapter.
func TestExample(t *testing.T) {
	x := filled(t)
	x.Dirs().Remove(2, "b")
	link(t, x, 10, "../c")
	add(t, x, 2, "b", 10)
	walks(t, x, "/a/b", true, 1, 5)
	walks(t, x, "/a/./b/", false, 1, 2, 10)
}
