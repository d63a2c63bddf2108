package fs_test

import (
	"bytes"
	"fmt"
	"math"
	"slices"
	"strings"
	"testing"

	"levee/api"
	"levee/disk"
	"levee/file"
	"levee/fs"
	"levee/geo"
	"levee/push"
	"levee/vol"
)

// shape is that of most volumes here: 2 times 43 data blocks.
var shape = api.Geo{Group: 48, Inodes: 16, Groups: 2}

// farFds are numbers that nothing is ever open by.
var farFds = []int{math.MinInt, math.MinInt + 1, -9, -8, -1, 8, 9, 256, 1 << 32, math.MaxInt - 1, math.MaxInt}

// noPaths are texts that can not be paths.
var noPaths = []string{"", "/a\x00", "/" + strings.Repeat("x", 25), "/a/" + strings.Repeat("x", 25) + "/b", strings.Repeat("/", 256), strings.Repeat("/a", 17), "/" + strings.Repeat("../", 17), "/\x00"}

// notRooted can be paths, but not of a call.
var notRooted = []string{"a", ".", "..", "a/b", "./a", "../a", " /a"}

// named errors, for lines.
var numbers = map[string]api.Errno{
	"OK": api.OK, "ErrArg": api.ErrArg, "ErrNil": api.ErrNil, "ErrRange": api.ErrRange, "ErrNone": api.ErrNone, "ErrThere": api.ErrThere, "ErrIsDir": api.ErrIsDir, "ErrNotDir": api.ErrNotDir,
	"ErrFilled": api.ErrFilled, "ErrName": api.ErrName, "ErrSpace": api.ErrSpace, "ErrFiles": api.ErrFiles, "ErrBig": api.ErrBig, "ErrLoop": api.ErrLoop, "ErrFd": api.ErrFd, "ErrLinks": api.ErrLinks,
}

func answers(t *testing.T, what string, got, want api.Errno) {
	t.Helper()
	if got != want {
		t.Errorf("%s: %d, not %d", what, got, want)
	}
}

// formatted is a disk with a new volume whose data blocks were written over.
func formatted(t *testing.T, g api.Geo) *disk.Disk {
	t.Helper()
	d, _ := disk.Load(bytes.Repeat([]byte{0xee}, geo.Size(g)*api.Block))
	answers(t, "Format", vol.Format(d, g), api.OK)
	return d
}

func mounted(t *testing.T, d *disk.Disk) *fs.Fs {
	t.Helper()
	f, e := fs.Mount(d)
	if e != api.OK || f == nil {
		t.Fatal("Mount", f, e)
	}
	return f
}

func fresh(t *testing.T) *fs.Fs {
	t.Helper()
	return mounted(t, formatted(t, shape))
}

func files(f *fs.Fs) *file.Files { return f.Nodes().Tree().Dirs().Files() }

func volume(f *fs.Fs) *vol.Vol { return files(f).Alloc().Vol() }

// settle makes all safe, and what was given free.
func settle(f *fs.Fs) {
	for range 3 {
		push.All(volume(f).Store())
		files(f).Alloc().Settle()
	}
}

// leave takes blocks till so many are free.
func leave(t *testing.T, f *fs.Fs, blocks int) {
	t.Helper()
	for b, _ := f.Free(); b != blocks; b, _ = f.Free() {
		if _, _, e := files(f).Alloc().Block(0); b < blocks || e != api.OK {
			t.Fatal("Block", b, e)
		}
	}
}

// state is all that a refused call must leave as it is.
func state(f *fs.Fs) string {
	blocks, slots := f.Free()
	var open []int
	for fd := range api.MaxOpen {
		if _, e := f.Nodes().Slot(fd); e == api.OK {
			open = append(open, fd)
		}
	}
	return fmt.Sprint(blocks, slots, volume(f).Store().Open(), volume(f).Work().Len(), open)
}

// call makes the call of a line: its name, and its paths.
func call(t *testing.T, f *fs.Fs, name string, paths ...string) api.Errno {
	t.Helper()
	one := map[string]func(string) api.Errno{"create": f.Create, "mkdir": f.Mkdir, "unlink": f.Unlink, "rmdir": f.Rmdir}
	two := map[string]func(string, string) api.Errno{"symlink": f.Symlink, "link": f.Link, "rename": f.Rename}
	var e api.Errno
	switch {
	case len(paths) == 1 && one[name] != nil:
		return one[name](paths[0])
	case len(paths) == 2 && two[name] != nil:
		return two[name](paths[0], paths[1])
	case name == "readlink":
		_, e = f.Readlink(paths[0])
	case name == "stat":
		_, e = f.Stat(paths[0], true)
	case name == "lstat":
		_, e = f.Stat(paths[0], false)
	case name == "readdir":
		_, e = f.Readdir(paths[0])
	case name == "open":
		_, e = f.Open(paths[0])
	default:
		t.Fatalf("no call: %q", name)
	}
	return e
}

// told are all calls by paths, and how many each one has.
var told = map[string]int{"create": 1, "mkdir": 1, "unlink": 1, "rmdir": 1, "symlink": 2, "link": 2, "rename": 2, "readlink": 1, "stat": 1, "lstat": 1, "readdir": 1, "open": 1}

// asks makes a call, and holds its error; a refused one changes nothing.
func asks(t *testing.T, f *fs.Fs, want api.Errno, name string, paths ...string) {
	t.Helper()
	was := state(f)
	if e := call(t, f, name, paths...); e != want {
		t.Errorf("%s %q: %d, not %d", name, paths, e, want)
	}
	if now := state(f); want != api.OK && now != was {
		t.Errorf("%s %q was refused, and something is changed: %s, not %s", name, paths, now, was)
	}
}

// run makes the calls of lines: each with its error behind it.
func run(t *testing.T, f *fs.Fs, lines string) {
	t.Helper()
	for line := range strings.Lines(lines) {
		words := strings.Fields(line)
		if len(words) == 0 {
			continue
		}
		last := len(words) - 1
		want, known := numbers[words[last]]
		if !known {
			t.Fatalf("no error: %q", line)
		}
		asks(t, f, want, words[0], words[1:last]...)
	}
}

// list holds the names in a directory, one behind the other.
func list(t *testing.T, f *fs.Fs, path, want string) {
	t.Helper()
	items, e := f.Readdir(path)
	var names []string
	for _, item := range items {
		names = append(names, item.Name)
	}
	if got := strings.Join(names, " "); got != want || e != api.OK {
		t.Errorf("Readdir(%q): %q, %d, not %q", path, got, e, want)
	}
}

// id is the number of what a path names, a link at its end not gone through.
func id(t *testing.T, f *fs.Fs, path string) int64 {
	t.Helper()
	s, e := f.Stat(path, false)
	if e != api.OK || s.Id < 1 {
		t.Errorf("Stat(%q): %v, %d", path, s, e)
	}
	return s.Id
}

// opens opens a path, and must get a number, or an error.
func opens(t *testing.T, f *fs.Fs, path string, want int, errno api.Errno) {
	t.Helper()
	if fd, e := f.Open(path); fd != want || e != errno {
		t.Errorf("Open(%q): %d, %d, not %d, %d", path, fd, e, want, errno)
	}
}

// reads holds the first bytes of what is open by a number.
func reads(t *testing.T, f *fs.Fs, fd int, want string) {
	t.Helper()
	if b, e := f.Read(fd, 0, api.MaxIO); string(b) != want || e != api.OK {
		t.Errorf("Read(%d): %q, %d, not %q", fd, b, e, want)
	}
}

// The example of the chapter.
func TestExample(t *testing.T) {
	f := fresh(t)
	run(t, f, `
		mkdir /a OK
		create /a/f OK
	`)
	opens(t, f, "/a/f", 0, api.OK)
	answers(t, "Write", f.Write(0, 0, []byte("hi")), api.OK)
	run(t, f, "rename /a/f /g OK")
	if s, e := f.Stat("/g", true); e != api.OK || s != (api.Stat{Id: 3, Kind: api.File, Size: 2, Links: 1}) {
		t.Error("Stat", s, e)
	}
	list(t, f, "/a", "")
	list(t, f, "/", "a g")
}

// P19.1: a disk that is no volume is not mounted.
func TestMountRefuses(t *testing.T) {
	turned := func(b int, do func(data []byte)) *disk.Disk {
		d := formatted(t, shape)
		data, _ := d.Read(b)
		do(data)
		d.Write(b, data)
		return d
	}
	one, _ := disk.New(1)
	zero, _ := disk.New(98)
	other := formatted(t, shape)
	twin, _ := other.Read(2)
	other.Write(50, twin)
	for what, k := range map[string]struct {
		d *disk.Disk
		e api.Errno
	}{
		"no disk":               {nil, api.ErrNil},
		"one block":             {one, api.ErrSuper},
		"bytes 0":               {zero, api.ErrSuper},
		"a superblock turned":   {turned(1, func(data []byte) { data[5]++ }), api.ErrSuper},
		"a header turned":       {turned(50, func(data []byte) { data[0]++ }), api.ErrForm},
		"another one's header":  {other, api.ErrForm},
		"no root":               {turned(3, func(data []byte) { clear(data) }), api.ErrForm},
		"a root that is a file": {turned(3, func(data []byte) { data[api.InodeSize] = api.File }), api.ErrForm},
	} {
		var was []byte
		if k.d != nil {
			was = k.d.Bytes()
		}
		if f, e := fs.Mount(k.d); f != nil || e != k.e {
			t.Errorf("Mount of %s: %v, %d, not %d", what, f, e, k.e)
		}
		if k.d != nil && !bytes.Equal(was, k.d.Bytes()) {
			t.Errorf("Mount of %s changed the disk", what)
		}
	}
}

// P19.1: a file system that is mounted has nothing open, and writes nothing by itself.
func TestMount(t *testing.T) {
	d := formatted(t, shape)
	was := d.Bytes()
	f := mounted(t, d)
	for fd := range api.MaxOpen {
		answers(t, "Close", f.Close(fd), api.ErrFd)
	}
	list(t, f, "/", "")
	if s, e := f.Stat("/", true); e != api.OK || s != (api.Stat{Id: 1, Kind: api.Dir, Links: 1}) {
		t.Error("Stat", s, e)
	}
	if b, s := f.Free(); b != 2*43 || s != 2*16-2 {
		t.Error("Free", b, s)
	}
	run(t, f, `
		create /f OK
		open /f OK
		open /f OK
	`)
	if !bytes.Equal(was, d.Bytes()) || len(d.Open()) != 0 {
		t.Error("a call wrote to the disk")
	}
	settle(f)
	g := mounted(t, d)
	answers(t, "Close", g.Close(0), api.ErrFd)
	opens(t, g, "/f", 0, api.OK)
	if g.Nodes() == f.Nodes() || f.Nodes().Opens(2) != 2 || g.Nodes().Opens(2) != 1 {
		t.Error("two that are mounted share what is open")
	}
}

// Of nil, and of one that was not mounted.
func TestNil(t *testing.T) {
	for what, f := range map[string]*fs.Fs{"nil": nil, "one that was not mounted": new(fs.Fs)} {
		if f.Nodes() != nil {
			t.Errorf("Nodes of %s", what)
		}
		if b, s := f.Free(); b != 0 || s != 0 {
			t.Errorf("Free of %s: %d, %d", what, b, s)
		}
		for name, many := range told {
			for _, path := range []string{"/", "/a", "", "a", "/..", strings.Repeat("/", 300)} {
				if e := call(t, f, name, slices.Repeat([]string{path}, many)...); e != api.ErrNil {
					t.Errorf("%s of %s: %d", name, what, e)
				}
			}
		}
		for _, fd := range append(farFds, 0, 1, 7) {
			b, e := f.Read(fd, -1, -1)
			s, g := f.Fstat(fd)
			if b != nil || e != api.ErrNil || s != (api.Stat{}) || g != api.ErrNil {
				t.Errorf("Read, Fstat of %s: %v, %d, %v, %d", what, b, e, s, g)
			}
			answers(t, "Close", f.Close(fd), api.ErrNil)
			answers(t, "Write", f.Write(fd, -1, nil), api.ErrNil)
			answers(t, "Truncate", f.Truncate(fd, -1), api.ErrNil)
		}
	}
}

// All calls: paths that can not be, that are not from the root, that have no last name, and that name nothing.
func TestPaths(t *testing.T) {
	f := fresh(t)
	run(t, f, `
		mkdir /d OK
		create /f OK
		symlink /l /l OK
		symlink no /n OK
	`)
	for name, many := range told {
		made := name == "create" || name == "mkdir" || name == "symlink"
		parents := made || name == "unlink" || name == "rmdir" || name == "rename"
		with := func(path string) []string { // its first path, but of symlink, whose first is no path of the tree
			if name == "symlink" {
				return []string{"x", path}
			}
			return append([]string{path}, []string{"/new"}[:many-1]...)
		}
		for _, path := range slices.Concat(noPaths, notRooted) {
			asks(t, f, api.ErrName, name, with(path)...)
		}
		asks(t, f, api.ErrNone, name, with("/no/x")...)
		asks(t, f, api.ErrNone, name, with("/n/x")...)
		asks(t, f, api.ErrNotDir, name, with("/f/x")...)
		asks(t, f, api.ErrLoop, name, with("/l/x")...)
		if !made {
			asks(t, f, api.ErrNone, name, with("/no")...)
		}
		for _, path := range []string{"/", "//", "/.", "/..", "/d/..", "/d/../.", "/f/..", "/no/.."} {
			if parents {
				asks(t, f, api.ErrArg, name, with(path)...)
			}
		}
	}
	for _, name := range []string{"link", "rename"} { // the first path's error ahead of the second one's
		for _, path := range []string{"", "a", "/no/x", "/f/x", "/l/x", "/"} {
			_, _, want := f.Nodes().Tree().Parent(path)
			asks(t, f, want, name, "/f", path)
			asks(t, f, api.ErrName, name, "a\x00", path)
		}
	}
	list(t, f, "/", "d f l n")
}

// P19.1: Create, Mkdir.
func TestCreate(t *testing.T) {
	f := fresh(t)
	run(t, f, `
		create /f OK
		mkdir /d OK
		symlink d /l OK
		create /f ErrThere
		mkdir /f ErrThere
		create /d ErrThere
		mkdir /d/ ErrThere
		create /l ErrThere
		mkdir //l//. ErrThere
		create /l/x OK
		mkdir /l/../d/./y/ OK
		create /d/x ErrThere
		mkdir /l/y/z OK
		create /d/..x OK
		create /.x OK
	`)
	list(t, f, "/", ".x d f l")
	list(t, f, "/d", "..x x y")
	for path, want := range map[string]api.Stat{
		"/f":   {Id: 2, Kind: api.File, Links: 1},
		"/d":   {Id: 3, Kind: api.Dir, Size: 256, Links: 1},
		"/d/x": {Id: 5, Kind: api.File, Links: 1},
		"/d/y": {Id: 6, Kind: api.Dir, Size: 256, Links: 1},
	} {
		if s, e := f.Stat(path, false); s != want || e != api.OK {
			t.Errorf("Stat(%q): %v, %d, not %v", path, s, e, want)
		}
	}
}

// P19.1: a volume with fewer free blocks, or slots, than a call needs.
func TestSpace(t *testing.T) {
	f := fresh(t)
	run(t, f, `
		mkdir /d OK
		create /f OK
		create /d/g OK
		mkdir /e OK
	`)
	opens(t, f, "/f", 0, api.OK)
	leave(t, f, 8)
	answers(t, "Write", f.Write(0, 0, make([]byte, 5*256)), api.OK) // Need 8
	if b, _ := f.Free(); b != 3 {
		t.Fatal("Free", b)
	}
	run(t, f, `
		create /x ErrSpace
		mkdir /x ErrSpace
		symlink f /x ErrSpace
		link /f /x ErrSpace
		rename /f /d/x ErrSpace
		rename /f /d/g ErrSpace
		create /f ErrThere
		create /x/y ErrNone
		link /d /x ErrIsDir
		symlink ../a// /x ErrSpace
		rename /no /x ErrNone
		rename /d /d/x ErrLoop
		rename /f /f OK
		rename /d /f ErrNotDir
		rmdir /d ErrFilled
		open /f OK
		unlink /d/g OK
		rmdir /e OK
	`)
	answers(t, "Write", f.Write(0, 0, []byte("x")), api.ErrSpace)
	answers(t, "Write", f.Write(0, 0, nil), api.OK)
	answers(t, "Write", f.Write(0, -1, []byte("x")), api.ErrRange)
	answers(t, "Truncate", f.Truncate(0, 256), api.OK)
	answers(t, "Truncate", f.Truncate(0, 9999), api.OK)
	if b, s := f.Free(); b != 3 || s != 2*16-2-4 {
		t.Error("what was given is free ahead of Settle", b, s)
	}
	settle(f)
	if b, s := f.Free(); b != 3+4 || s != 2*16-2-2 {
		t.Error("Free", b, s)
	}
	run(t, f, `
		symlink f /x ErrSpace
		create /x OK
	`)
	answers(t, "Truncate", f.Truncate(0, 0), api.OK)
	settle(f)
	run(t, f, "symlink f /y OK") // needs 8 blocks, and takes one
	leave(t, f, 4)
	run(t, f, `
		mkdir /z OK
		link /f /z/g OK
		link /f /z/h ErrSpace
		rename /f /z/h ErrSpace
		rename /f /z/g OK
	`)
	if b, _ := f.Free(); b != 3 { // the names in z stand in a block
		t.Error("Free", b)
	}
}

// P19.1: as many things as there are slots.
func TestSlots(t *testing.T) {
	f := fresh(t)
	for k := range 2*16 - 2 {
		answers(t, "Create", f.Create(fmt.Sprintf("/%d", k)), api.OK)
	}
	run(t, f, `
		create /x ErrSpace
		mkdir /x ErrSpace
		symlink a /x ErrSpace
		create /7 ErrThere
		link /7 /x OK
		rename /8 /7 OK
		unlink /9 OK
		create /y ErrSpace
	`)
	if _, s := f.Free(); s != 0 {
		t.Error("Free", s)
	}
	settle(f)
	run(t, f, `
		create /y OK
		create /z ErrSpace
	`)
}
