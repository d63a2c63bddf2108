package fs_test

import (
	"fmt"
	"slices"
	"strings"
	"testing"

	"levee/api"
	"levee/fs"
	"levee/vol"
)

// full lets a link be full of names: this many more than it has.
func full(t *testing.T, f *fs.Fs, path string, links int) {
	t.Helper()
	way, _ := f.Nodes().Tree().Walk(path, false)
	slot := way[len(way)-1]
	i, _ := files(f).Get(slot)
	i.Links = links
	if _, e := files(f).Put(slot, i); e != api.OK {
		t.Fatal("Put", e)
	}
}

// P19.1: Symlink, and the targets that can not be paths.
func TestSymlink(t *testing.T) {
	f := fresh(t)
	run(t, f, `
		mkdir /d OK
		create /f OK
		symlink f /f ErrThere
		symlink f /no/l ErrNone
		symlink f /f/l ErrNotDir
		symlink f / ErrArg
		symlink / /root OK
		symlink ../f /d/l OK
		symlink .. /d/up OK
		symlink //d/./ /slashes OK
		symlink ... /dots OK
		lstat /dots OK
		stat /dots ErrNone
		stat /d/l OK
		readdir /d/up OK
		readdir /slashes OK
	`)
	for target, want := range map[string]api.Errno{
		"":                                      api.ErrName,
		"a\x00":                                 api.ErrName,
		strings.Repeat("x", 25):                 api.ErrName,
		"/ok/" + strings.Repeat("x", 25) + "/f": api.ErrName,
		strings.Repeat("/", 256):                api.ErrName,
		strings.Repeat("/", 100000):             api.ErrName,
		strings.Repeat("a/", 17):                api.ErrName,
		strings.Repeat("../", 17):               api.ErrName,
		strings.Repeat("/", 255):                api.OK,
		strings.Repeat("a/", 16):                api.OK,
		strings.Repeat("./", 127):               api.OK,
		strings.Repeat("x", 24):                 api.OK,
		".":                                     api.OK,
		"\xff\xfe \n":                           api.OK,
	} {
		asks(t, f, api.ErrArg, "symlink", target, "/d/..") // ahead of the target's
		asks(t, f, api.ErrNone, "symlink", target, "/no/l")
		asks(t, f, api.ErrNotDir, "symlink", target, "/f/l")
		if want != api.OK {
			asks(t, f, want, "symlink", target, "/f") // ahead of ErrThere
		}
		asks(t, f, want, "symlink", target, "/t")
		if want != api.OK {
			continue
		}
		if s, e := f.Readlink("/t"); s != target || e != api.OK {
			t.Errorf("Readlink: %q, %d, not %q", s, e, target)
		}
		if s, e := f.Stat("/t", false); e != api.OK || s.Kind != api.Link || s.Size != int64(len(target)) || s.Links != 1 {
			t.Errorf("Stat of %q: %v, %d", target, s, e)
		}
		asks(t, f, api.OK, "unlink", "/t")
		settle(f)
	}
}

// P19.1: Link; a link at the end of old is not gone through.
func TestLink(t *testing.T) {
	f := fresh(t)
	run(t, f, `
		mkdir /d OK
		create /f OK
		symlink f /l OK
		symlink d /e OK
		link /f /g OK
		link /l /m OK
		link /no /f ErrNone
		link / /x ErrIsDir
		link /d /x ErrIsDir
		link /d/. /f ErrIsDir
		link /e /e2 OK
		link /f /f ErrThere
		link /f /d ErrThere
		link /f /e/f OK
		link /e/f /e/../d/f2 OK
		link /f/ /no/f ErrNone
		link /f /f/x ErrNotDir
		link /f/x /no/y ErrNotDir
		link /d /no/y ErrNone
		link /f / ErrArg
	`)
	for path, links := range map[string]int{"/f": 4, "/g": 4, "/d/f": 4, "/d/f2": 4, "/l": 2, "/m": 2, "/e": 2, "/e2": 2, "/d": 1} {
		if s, e := f.Stat(path, false); s.Links != links || e != api.OK {
			t.Errorf("Stat(%q): %v, %d, not %d links", path, s, e, links)
		}
	}
	if id(t, f, "/f") != id(t, f, "/d/f2") || id(t, f, "/l") != id(t, f, "/m") || id(t, f, "/l") == id(t, f, "/f") {
		t.Error("the names name other things")
	}
	full(t, f, "/f", api.MaxLinks-1)
	run(t, f, `
		link /f /h OK
		link /g /i ErrLinks
		link /g /h ErrThere
		unlink /h OK
		link /g /h OK
	`)
}

// P19.2: Unlink and Rmdir.
func TestUnlink(t *testing.T) {
	f := fresh(t)
	run(t, f, `
		mkdir /d OK
		create /d/f OK
		symlink d /l OK
		symlink d/f /m OK
		unlink /d ErrIsDir
		unlink /d/. ErrIsDir
		unlink /no ErrNone
		unlink /d/no ErrNone
		unlink /d/f/x ErrNotDir
		unlink / ErrArg
		unlink /d/.. ErrArg
		rmdir / ErrArg
		rmdir /no ErrNone
		rmdir /d/f ErrNotDir
		rmdir /l ErrNotDir
		rmdir /m ErrNotDir
		rmdir /d ErrFilled
		rmdir /l/ ErrNotDir
		unlink /m OK
		lstat /m ErrNone
		stat /d/f OK
		unlink /l/f OK
		stat /d/f ErrNone
		unlink /l/f ErrNone
		rmdir /d OK
		rmdir /d ErrNone
		stat /l ErrNone
		unlink /l/f ErrNone
		unlink /l/ OK
	`)
	list(t, f, "/", "")
	settle(f)
	if b, s := f.Free(); b != 2*43-1 || s != 2*16-2 {
		t.Error("Free", b, s)
	}
}

// P19.2: with the last name a thing goes, with each other one it has a link less.
func TestUnlinkLinks(t *testing.T) {
	f := fresh(t)
	run(t, f, `
		create /f OK
		link /f /g OK
		symlink f /l OK
		link /l /m OK
	`)
	opens(t, f, "/g", 0, api.OK)
	answers(t, "Write", f.Write(0, 0, []byte("bytes")), api.OK)
	answers(t, "Close", f.Close(0), api.OK)
	run(t, f, `
		unlink /f OK
		unlink /l OK
		stat /m ErrNone
	`)
	if s, e := f.Stat("/g", true); e != api.OK || s.Links != 1 || s.Size != 5 {
		t.Error("Stat", s, e)
	}
	if s, e := f.Readlink("/m"); s != "f" || e != api.OK {
		t.Error("Readlink", s, e)
	}
	settle(f)
	_, slots := f.Free()
	run(t, f, `
		unlink /g OK
		unlink /m OK
	`)
	settle(f)
	if _, now := f.Free(); now != slots+2 {
		t.Error("Free", now, slots)
	}
}

// P19.2: a directory renamed to below itself, by whatever path.
func TestRenameLoop(t *testing.T) {
	f := fresh(t)
	run(t, f, `
		mkdir /a OK
		mkdir /a/b OK
		mkdir /a/b/c OK
		mkdir /z OK
		symlink /a/b /z/l OK
		symlink a /m OK
		create /f OK
		rename /a /a/x ErrLoop
		rename /a /a/b ErrLoop
		rename /a /a/b/x ErrLoop
		rename /a /a/b/c/x ErrLoop
		rename /a/b /a/b/b ErrLoop
		rename /a /z/l/x ErrLoop
		rename /z/l/c /z/l/c/x ErrLoop
		rename /m/b /z/l/x ErrLoop
		rename /a /m/x ErrLoop
		rename /a /z/../a/x ErrLoop
		rename /no /no/x ErrNone
		rename /f /f/x ErrNotDir
		rename /a /no/x ErrNone
		rename / /a/x ErrArg
		rename /a/b/.. /x ErrArg
		rename /a /a/b/../../x OK
		rename /x/b /x/b OK
		rename /x/b /x/y OK
		rename /x /x OK
		rename /m /z/m OK
		rename /z/l /x/y/l OK
		rename /x /z/l OK
		rename /z/l /z/l/y ErrLoop
	`)
	list(t, f, "/", "f z")
	list(t, f, "/z", "l m")
	list(t, f, "/z/l/y", "c l")
}

// P19.2: a name put in the place of another one.
func TestRenameOver(t *testing.T) {
	f := fresh(t)
	run(t, f, `
		mkdir /d OK
		mkdir /e OK
		mkdir /g OK
		create /g/x OK
		create /f OK
		create /h OK
		symlink f /l OK
		link /f /k OK
	`)
	ids := map[string]int64{}
	for _, name := range []string{"d", "e", "f", "h", "l"} {
		ids[name] = id(t, f, "/"+name)
	}
	run(t, f, `
		rename /d /f ErrNotDir
		rename /d /l ErrNotDir
		rename /f /d ErrIsDir
		rename /l /d ErrIsDir
		rename /d /g ErrFilled
		rename /g/x /g ErrIsDir
		rename /f /k OK
		rename /f /f OK
		rename /f /h OK
		rename /h /g/x OK
		rename /d /e OK
		rename /l /k OK
	`)
	list(t, f, "/", "e g k")
	if id(t, f, "/e") != ids["d"] || id(t, f, "/g/x") != ids["f"] || id(t, f, "/k") != ids["l"] {
		t.Error("the names name other things")
	}
	if s, e := f.Stat("/g/x", true); e != api.OK || s.Links != 1 {
		t.Error("Stat", s, e)
	}
	for _, path := range []string{"/d", "/f", "/h", "/l"} {
		asks(t, f, api.ErrNone, "lstat", path)
	}
	settle(f)
	if _, s := f.Free(); s != 2*16-2-4 {
		t.Error("Free", s)
	}
}

// P19.2: what is renamed has its bytes, its number and its names; of the names ahead of the last one links are gone through, of the last one none.
func TestRename(t *testing.T) {
	f := fresh(t)
	run(t, f, `
		mkdir /a OK
		mkdir /b OK
		symlink ../b /a/l OK
		create /a/f OK
		mkdir /a/d OK
		create /a/d/x OK
		symlink f /a/m OK
	`)
	opens(t, f, "/a/f", 0, api.OK)
	answers(t, "Write", f.Write(0, 0, []byte("some bytes")), api.OK)
	ids := []int64{id(t, f, "/a/f"), id(t, f, "/a/d"), id(t, f, "/a/d/x"), id(t, f, "/a/m")}
	run(t, f, `
		rename /a/f /a/l/f OK
		rename /a/d /a/l/d/ OK
		rename /a/m /b/m OK
		rename /a/l /b/f2 OK
		rename /b/f2 /a/l OK
	`)
	list(t, f, "/a", "l")
	list(t, f, "/b", "d f m")
	if now := []int64{id(t, f, "/b/f"), id(t, f, "/b/d"), id(t, f, "/b/d/x"), id(t, f, "/b/m")}; !slices.Equal(now, ids) {
		t.Errorf("the numbers are %d, not %d", now, ids)
	}
	reads(t, f, 0, "some bytes")
	opens(t, f, "/b/m", 1, api.OK)
	reads(t, f, 1, "some bytes")
}

// P19.3: Stat and Readlink, with links that are gone through and not.
func TestStat(t *testing.T) {
	f := fresh(t)
	run(t, f, `
		mkdir /d OK
		create /d/f OK
		symlink f /d/l OK
		symlink /d /e OK
		symlink e/l /m OK
		symlink no /n OK
		readlink / ErrArg
		readlink /d ErrArg
		readlink /d/f ErrArg
		readlink /e/f ErrArg
		readlink /no ErrNone
		readlink /n OK
		readlink /n/x ErrNone
		readlink /d/f/x ErrNotDir
		readlink /e/. OK
		stat /n ErrNone
		lstat /n OK
	`)
	opens(t, f, "/m", 0, api.OK)
	answers(t, "Write", f.Write(0, 299, []byte("x")), api.OK)
	file := api.Stat{Id: 3, Kind: api.File, Size: 300, Links: 1}
	dir := api.Stat{Id: 2, Kind: api.Dir, Size: 256, Links: 1}
	for _, k := range []struct {
		path    string
		through bool
		want    api.Stat
	}{
		{"/", true, api.Stat{Id: 1, Kind: api.Dir, Size: 256, Links: 1}},
		{"/d/..", false, api.Stat{Id: 1, Kind: api.Dir, Size: 256, Links: 1}},
		{"/m", true, file},
		{"/m", false, api.Stat{Id: 6, Kind: api.Link, Size: 3, Links: 1}},
		{"/e/l", true, file},
		{"/e/l", false, api.Stat{Id: 4, Kind: api.Link, Size: 1, Links: 1}},
		{"/e/f", false, file},
		{"/e", false, api.Stat{Id: 5, Kind: api.Link, Size: 2, Links: 1}},
		{"/e/", true, dir},
		{"/e/..", false, api.Stat{Id: 1, Kind: api.Dir, Size: 256, Links: 1}},
		{"/e/.", false, api.Stat{Id: 5, Kind: api.Link, Size: 2, Links: 1}},
		{"/n", false, api.Stat{Id: 7, Kind: api.Link, Size: 2, Links: 1}},
	} {
		if s, e := f.Stat(k.path, k.through); s != k.want || e != api.OK {
			t.Errorf("Stat(%q, %t): %v, %d, not %v", k.path, k.through, s, e, k.want)
		}
	}
	for _, path := range []string{"/no", "/d/f/x", "", "a"} {
		if s, e := f.Stat(path, true); s != (api.Stat{}) || e == api.OK {
			t.Errorf("Stat(%q): %v, %d", path, s, e)
		}
		if s, e := f.Readlink(path); s != "" || e == api.OK {
			t.Errorf("Readlink(%q): %q, %d", path, s, e)
		}
	}
	if s, e := f.Readlink("/d"); s != "" || e != api.ErrArg {
		t.Errorf("Readlink: %q, %d", s, e)
	}
}

// The example of the whole: nine links one behind the other, and eight.
func TestNineLinks(t *testing.T) {
	f := fresh(t)
	run(t, f, `
		create /0 OK
		mkdir /d OK
	`)
	for k := range 9 {
		answers(t, "Symlink", f.Symlink(fmt.Sprint(k), fmt.Sprintf("/%d", k+1)), api.OK)
	}
	run(t, f, `
		stat /8 OK
		open /8 OK
		stat /9 ErrLoop
		open /9 ErrLoop
		readdir /9 ErrLoop
		readdir /8 ErrNotDir
		readlink /9 OK
		lstat /9 OK
		link /9 /d/9 OK
		create /9/x ErrLoop
		create /8/x ErrNotDir
		create /9 ErrThere
	`)
}

// P19.3: names byte by byte, each with its number; of a directory with more than one block, too.
func TestReaddir(t *testing.T) {
	f := fresh(t)
	names := []string{"b", "a", "B", "aa", "a ", "\xff", "\x01", "é", "z", "~", "10", "9", "...", strings.Repeat("m", 24), strings.Repeat("m", 23), "a\xff", "a.", "-", ".b", "e\xcc\x81"}
	run(t, f, `
		mkdir /d OK
		symlink d /l OK
		create /f OK
		symlink f /m OK
	`)
	ids := map[string]int64{}
	for k, name := range names {
		if k%3 == 2 {
			answers(t, "Link", f.Link("/f", "/d/"+name), api.OK)
		} else {
			answers(t, "Create", f.Create("/d/"+name), api.OK)
		}
		ids[name] = id(t, f, "/d/"+name)
	}
	slices.Sort(names)
	held := func() {
		t.Helper()
		items, e := f.Readdir("/l")
		if e != api.OK || len(items) != len(names) {
			t.Fatalf("Readdir: %v, %d", items, e)
		}
		for k, item := range items {
			if item != (api.Item{Name: names[k], Id: ids[names[k]]}) {
				t.Errorf("Readdir: %v at %d, not %q, %d", item, k, names[k], ids[names[k]])
			}
		}
		clear(items)
		_ = append(items[:3], api.Item{Name: "x", Id: 99})
	}
	held()
	held() // what was written into the answer is not seen
	run(t, f, `
		readdir /f ErrNotDir
		readdir /m ErrNotDir
		readdir /no ErrNone
		readdir /f/x ErrNotDir
		readdir /d/.. OK
	`)
	gone := []string{names[0], names[7], names[8]}
	for _, name := range gone {
		answers(t, "Unlink", f.Unlink("/d/"+name), api.OK)
		names = slices.DeleteFunc(names, func(x string) bool { return x == name })
	}
	held()
	for _, path := range []string{"/f", "/no", ""} {
		if items, e := f.Readdir(path); len(items) != 0 || e == api.OK {
			t.Errorf("Readdir(%q): %v, %d", path, items, e)
		}
	}
}

// Names of slots that have no thing, as they stand on a volume that was not put right.
func TestNamesOfNothing(t *testing.T) {
	d := formatted(t, shape)
	f := mounted(t, d)
	run(t, f, "create /f OK")
	dirs := f.Nodes().Tree().Dirs()
	dirs.Add(vol.Root, "none", 20)
	dirs.Add(vol.Root, "far", 1000)
	dirs.Add(vol.Root, "root", vol.Root)
	settle(f)
	if items, e := f.Readdir("/"); e != api.OK || fmt.Sprint(items) != "[{f 2} {far 0} {none 0} {root 1}]" {
		t.Error("Readdir", items, e)
	}
	run(t, f, `
		readdir /none ErrNotDir
		readdir /far ErrNotDir
		rmdir /none ErrNotDir
		rmdir /far ErrNotDir
		stat /none ErrNone
		open /none ErrNone
		readlink /none ErrNone
		create /none ErrThere
		create /none/x ErrNotDir
		link /none /x ErrNone
		stat /far ErrRange
		readdir /root OK
		unlink /root ErrIsDir
		rmdir /root ErrFilled
		rename /root /x ErrLoop
		unlink /none OK
		unlink /far OK
	`)
	list(t, f, "/root", "f root")
}
