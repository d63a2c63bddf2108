package fs_test

import (
	"bytes"
	"math"
	"slices"
	"strings"
	"testing"

	"levee/api"
)

// P19.3: Open and Close.
func TestOpen(t *testing.T) {
	f := fresh(t)
	run(t, f, `
		mkdir /d OK
		create /d/f OK
		create /g OK
		symlink d/f /l OK
		symlink d /e OK
		symlink no /n OK
		open / ErrIsDir
		open /d ErrIsDir
		open /e ErrIsDir
		open /no ErrNone
		open /n ErrNone
		open /g/x ErrNotDir
	`)
	for fd, path := range []string{"/d/f", "/g", "/l", "/e/f", "/g/", "/d/../g", "/l", "/g"} {
		opens(t, f, path, fd, api.OK)
	}
	run(t, f, `
		open /g ErrFiles
		open /d ErrIsDir
		open /no ErrNone
	`)
	for fd, want := range []int64{3, 4, 3, 3, 4, 4, 3, 4} {
		if s, e := f.Fstat(fd); s.Id != want || s.Kind != api.File || e != api.OK {
			t.Errorf("Fstat(%d): %v, %d, not %d", fd, s, e, want)
		}
	}
	for _, fd := range []int{5, 2, 7} {
		answers(t, "Close", f.Close(fd), api.OK)
		answers(t, "Close", f.Close(fd), api.ErrFd)
	}
	for _, fd := range []int{2, 5, 7} {
		opens(t, f, "/g", fd, api.OK)
	}
	opens(t, f, "/g", 0, api.ErrFiles)
}

// P19.4: numbers that nothing is open by.
func TestNoFd(t *testing.T) {
	f := fresh(t)
	run(t, f, `
		create /f OK
		open /f OK
		open /f OK
	`)
	answers(t, "Close", f.Close(0), api.OK)
	for _, fd := range append(farFds, 0, 2, 3, 7) {
		was := state(f)
		if b, e := f.Read(fd, -1, -1); b != nil || e != api.ErrFd {
			t.Errorf("Read(%d): %v, %d", fd, b, e)
		}
		if s, e := f.Fstat(fd); s != (api.Stat{}) || e != api.ErrFd {
			t.Errorf("Fstat(%d): %v, %d", fd, s, e)
		}
		answers(t, "Write", f.Write(fd, -1, make([]byte, 5000)), api.ErrFd)
		answers(t, "Truncate", f.Truncate(fd, -1), api.ErrFd)
		answers(t, "Close", f.Close(fd), api.ErrFd)
		if state(f) != was {
			t.Errorf("a call of %d changed something", fd)
		}
	}
}

// P19.4: what can not be read, written or cut: negative and greatest places and sizes.
func TestFarBytes(t *testing.T) {
	f := fresh(t)
	run(t, f, `
		create /f OK
		open /f OK
	`)
	answers(t, "Write", f.Write(0, 0, []byte("hello")), api.OK)
	const most = api.MaxFile * api.Block
	for _, k := range []struct {
		off  int64
		n    int
		want api.Errno
		has  string
	}{
		{0, 0, api.OK, ""}, {0, 3, api.OK, "hel"}, {3, 4096, api.OK, "lo"}, {5, 1, api.OK, ""}, {most, 9, api.OK, ""}, {math.MaxInt64, 4096, api.OK, ""},
		{-1, 0, api.ErrRange, ""}, {math.MinInt64, 1, api.ErrRange, ""}, {0, -1, api.ErrRange, ""}, {0, 4097, api.ErrRange, ""}, {0, math.MaxInt, api.ErrRange, ""}, {0, math.MinInt, api.ErrRange, ""}, {math.MaxInt64, math.MaxInt, api.ErrRange, ""},
	} {
		if b, e := f.Read(0, k.off, k.n); string(b) != k.has || e != k.want {
			t.Errorf("Read(%d, %d): %q, %d, not %q, %d", k.off, k.n, b, e, k.has, k.want)
		}
	}
	for _, k := range []struct {
		off  int64
		n    int
		want api.Errno
	}{
		{-1, 1, api.ErrRange}, {math.MinInt64, 1, api.ErrRange}, {-1, 0, api.ErrRange}, {0, 4097, api.ErrRange}, {math.MaxInt64, 4097, api.ErrRange}, {0, 1 << 20, api.ErrRange},
		{most, 1, api.ErrBig}, {most - 1, 2, api.ErrBig}, {math.MaxInt64, 1, api.ErrBig}, {math.MaxInt64 - 1, 4096, api.ErrBig}, {1 << 40, 4096, api.ErrBig},
	} {
		was := state(f)
		if e := f.Write(0, k.off, make([]byte, k.n)); e != k.want || state(f) != was {
			t.Errorf("Write(%d, %d bytes): %d, not %d", k.off, k.n, e, k.want)
		}
	}
	for size, want := range map[int64]api.Errno{-1: api.ErrRange, math.MinInt64: api.ErrRange, most + 1: api.ErrBig, math.MaxInt64: api.ErrBig} {
		was := state(f)
		if e := f.Truncate(0, size); e != want || state(f) != was {
			t.Errorf("Truncate(%d): %d, not %d", size, e, want)
		}
	}
	reads(t, f, 0, "hello")
	answers(t, "Truncate", f.Truncate(0, most), api.OK)
	answers(t, "Write", f.Write(0, most-1, []byte("!")), api.OK)
	if b, e := f.Read(0, most-3, 9); string(b) != "\x00\x00!" || e != api.OK {
		t.Errorf("Read: %q, %d", b, e)
	}
	if s, e := f.Fstat(0); s.Size != most || e != api.OK {
		t.Error("Fstat", s, e)
	}
}

// P19.4: what is written is read, by each number, and by each name.
func TestBytes(t *testing.T) {
	f := fresh(t)
	run(t, f, `
		create /f OK
		link /f /g OK
		open /f OK
		open /g OK
	`)
	b := []byte("some bytes")
	answers(t, "Write", f.Write(0, 3, b), api.OK)
	clear(b)
	reads(t, f, 1, "\x00\x00\x00some bytes")
	got, _ := f.Read(1, 3, 4)
	got[0] = 'X'
	_ = append(got, "YYY"...)
	reads(t, f, 0, "\x00\x00\x00some bytes")
	answers(t, "Truncate", f.Truncate(1, 7), api.OK)
	reads(t, f, 0, "\x00\x00\x00some")
	answers(t, "Truncate", f.Truncate(0, 9), api.OK)
	reads(t, f, 1, "\x00\x00\x00some\x00\x00")
	answers(t, "Truncate", f.Truncate(0, 9), api.OK)
	answers(t, "Write", f.Write(1, 9, nil), api.OK)
	answers(t, "Write", f.Write(1, 99, []byte{}), api.OK)
	for fd := range 2 {
		if s, e := f.Fstat(fd); s != (api.Stat{Id: 2, Kind: api.File, Size: 9, Links: 2}) || e != api.OK {
			t.Error("Fstat", s, e)
		}
	}
	long := bytes.Repeat([]byte("0123456789abcdef"), 256)
	answers(t, "Write", f.Write(0, 100, long), api.OK)
	if b, e := f.Read(1, 100, api.MaxIO); !bytes.Equal(b, long) || e != api.OK {
		t.Errorf("Read: %d bytes, %d", len(b), e)
	}
	if s, e := f.Stat("/g", true); s.Size != 4196 || e != api.OK {
		t.Error("Stat", s, e)
	}
}

// The example of the whole: a file that is open and has no name any more is read still; behind Close its blocks wait.
func TestOpenWithoutName(t *testing.T) {
	f := fresh(t)
	run(t, f, `
		create /f OK
		create /g OK
		open /f OK
		open /f OK
	`)
	answers(t, "Write", f.Write(0, 0, []byte(strings.Repeat("x", 300))), api.OK)
	settle(f)
	blocks, slots := f.Free()
	free := func(b, s int) {
		t.Helper()
		if nowB, nowS := f.Free(); nowB != blocks+b || nowS != slots+s {
			t.Errorf("Free: %d, %d more, not %d, %d", nowB-blocks, nowS-slots, b, s)
		}
	}
	run(t, f, `
		unlink /f OK
		stat /f ErrNone
		open /f ErrNone
		create /f OK
		unlink /f OK
	`)
	settle(f)
	free(0, 0)
	if s, e := f.Fstat(1); s != (api.Stat{Id: 2, Kind: api.File, Size: 300}) || e != api.OK {
		t.Error("Fstat", s, e)
	}
	answers(t, "Write", f.Write(1, 0, []byte("y")), api.OK)
	reads(t, f, 0, "y"+strings.Repeat("x", 299))
	answers(t, "Truncate", f.Truncate(0, 256), api.OK)
	settle(f)
	free(1, 0)
	answers(t, "Close", f.Close(0), api.OK)
	settle(f)
	free(1, 0)
	reads(t, f, 1, "y"+strings.Repeat("x", 255))
	answers(t, "Close", f.Close(1), api.OK)
	free(1, 0)
	settle(f)
	free(2, 1)
}

// P19.2: what a rename takes the name from is there as long as it is open.
func TestOpenReplaced(t *testing.T) {
	f := fresh(t)
	run(t, f, `
		create /f OK
		create /g OK
		open /f OK
		open /g OK
	`)
	answers(t, "Write", f.Write(0, 0, []byte("of f")), api.OK)
	answers(t, "Write", f.Write(1, 0, []byte("of g")), api.OK)
	run(t, f, "rename /f /g OK")
	reads(t, f, 0, "of f")
	reads(t, f, 1, "of g")
	if s, e := f.Fstat(1); s.Links != 0 || e != api.OK {
		t.Error("Fstat", s, e)
	}
	opens(t, f, "/g", 2, api.OK)
	reads(t, f, 2, "of f")
	answers(t, "Close", f.Close(1), api.OK)
	settle(f)
	if _, s := f.Free(); s != 2*16-2-1 {
		t.Error("Free", s)
	}
}

// P19.4: Free leaves out what stands in frozen groups, and so does what a call needs.
func TestFrozen(t *testing.T) {
	f := fresh(t)
	run(t, f, `
		create /f OK
		open /f OK
	`)
	answers(t, "Freeze", files(f).Alloc().Freeze(1, true), api.OK)
	if b, s := f.Free(); b != 43-1 || s != 16-2-1 {
		t.Error("Free", b, s)
	}
	leave(t, f, 3)
	run(t, f, "create /g ErrSpace")
	answers(t, "Write", f.Write(0, 0, []byte("x")), api.ErrSpace)
	answers(t, "Freeze", files(f).Alloc().Freeze(1, false), api.OK)
	run(t, f, "create /g OK")
	answers(t, "Write", f.Write(0, 0, []byte("x")), api.OK)
}

// What is done beside a file system, by its things, it sees.
func TestBeside(t *testing.T) {
	f := fresh(t)
	n := f.Nodes()
	slot, _ := n.Make(1, "f", api.File, nil)
	fd, e := n.Open(slot)
	if fd != 0 || e != api.OK {
		t.Fatal("Open", fd, e)
	}
	answers(t, "Write", f.Write(0, 0, []byte("hi")), api.OK)
	list(t, f, "/", "f")
	if b, _ := files(f).Read(slot, 0, 9); !slices.Equal(b, []byte("hi")) {
		t.Error("Read", b)
	}
	answers(t, "Close", n.Close(0), api.OK)
	answers(t, "Close", f.Close(0), api.ErrFd)
	if f.Nodes() != n {
		t.Error("Nodes")
	}
}
