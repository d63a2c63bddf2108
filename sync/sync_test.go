package sync_test

import (
	"bytes"
	"fmt"
	"math"
	"slices"
	"strings"
	"testing"

	"levee/api"
	"levee/disk"
	"levee/file"
	"levee/fs"
	"levee/geo"
	"levee/patch"
	"levee/push"
	"levee/sync"
	"levee/vol"
)

// shape is that of most volumes here: 2 times 43 data blocks.
var shape = api.Geo{Group: 48, Inodes: 16, Groups: 2}

// farFds are numbers that nothing is ever open by.
var farFds = []int{math.MinInt, math.MinInt + 1, -9, -8, -1, 8, 9, 256, 1 << 32, math.MaxInt - 1, math.MaxInt}

func answers(t *testing.T, what string, got, want api.Errno) {
	t.Helper()
	if got != want {
		t.Errorf("%s: %d, not %d", what, got, want)
	}
}

// formatted is a disk with a new volume whose data blocks were written over.
func formatted(t *testing.T, g api.Geo) *disk.Disk {
	t.Helper()
	d, _ := disk.Load(bytes.Repeat([]byte{0xee}, geo.Size(g)*api.Block))
	answers(t, "Format", vol.Format(d, g), api.OK)
	return d
}

func mounted(t *testing.T, d *disk.Disk) *sync.Sync {
	t.Helper()
	f, e := fs.Mount(d)
	s := sync.New(f)
	if e != api.OK || s == nil || s.Fs() != f {
		t.Fatal("Mount", e)
	}
	return s
}

// fresh is a new volume, its disk and its file system.
func fresh(t *testing.T) (*disk.Disk, *fs.Fs, *sync.Sync) {
	t.Helper()
	d := formatted(t, shape)
	s := mounted(t, d)
	return d, s.Fs(), s
}

func files(s *sync.Sync) *file.Files { return s.Fs().Nodes().Tree().Dirs().Files() }

func volume(s *sync.Sync) *vol.Vol { return files(s).Alloc().Vol() }

func store(s *sync.Sync) *patch.Store { return volume(s).Store() }

// slot is where a path's thing stands.
func slot(t *testing.T, s *sync.Sync, path string) int {
	t.Helper()
	way, e := s.Fs().Nodes().Tree().Walk(path, false)
	if e != api.OK {
		t.Fatal("Walk", path, e)
	}
	return way[len(way)-1]
}

// opened makes a file with some bytes, and opens it.
func opened(t *testing.T, f *fs.Fs, path, text string) int {
	t.Helper()
	answers(t, "Create", f.Create(path), api.OK)
	fd, e := f.Open(path)
	answers(t, "Open", e, api.OK)
	answers(t, "Write", f.Write(fd, 0, []byte(text)), api.OK)
	return fd
}

// syncs makes all safe.
func syncs(t *testing.T, s *sync.Sync) int {
	t.Helper()
	n, e := s.Sync()
	if e != api.OK || !s.Quiet() || s.Dirty() != 0 {
		t.Errorf("Sync: %d, %d, Quiet %t, %d dirty", n, e, s.Quiet(), s.Dirty())
	}
	return n
}

// free holds how many blocks and slots are free.
func free(t *testing.T, s *sync.Sync, blocks, slots int) {
	t.Helper()
	if b, n := s.Fs().Free(); b != blocks || n != slots {
		t.Errorf("Free: %d, %d, not %d, %d", b, n, blocks, slots)
	}
}

// crashed is a copy of the disk behind a crash at which of what was written nothing is there.
func crashed(d *disk.Disk) *disk.Disk {
	c := d.Copy()
	c.Crash(nil)
	return c
}

// Of nil, and of no file system.
func TestNil(t *testing.T) {
	if sync.New(nil) != nil || sync.New(new(fs.Fs)) != nil {
		t.Error("New of no file system")
	}
	for what, s := range map[string]*sync.Sync{"nil": nil, "one that was not made": new(sync.Sync)} {
		if s.Fs() != nil || s.Dirty() != 0 || s.Quiet() {
			t.Errorf("Fs, Dirty, Quiet of %s: %v, %d, %t", what, s.Fs(), s.Dirty(), s.Quiet())
		}
		for _, n := range append(farFds, 0, 1, 7) {
			for name, call := range map[string]func() (int, api.Errno){
				"Fsync": func() (int, api.Errno) { return s.Fsync(n) },
				"Write": func() (int, api.Errno) { return s.Write(n) },
				"Sync":  s.Sync,
				"Flush": s.Flush,
			} {
				if n, e := call(); n != 0 || e != api.ErrNil {
					t.Errorf("%s of %s: %d, %d", name, what, n, e)
				}
			}
		}
	}
}

// The example of the chapter: at most as many writes as changes.
func TestExample(t *testing.T) {
	_, f, s := fresh(t)
	fd := opened(t, f, "/f", "hello")
	open := store(s).Open()
	if n, e := s.Fsync(fd); n < 2 || n > open || e != api.OK || s.Quiet() {
		t.Errorf("Fsync: %d, %d, of %d changes", n, e, open)
	}
	if len(files(s).Changes(slot(t, s, "/f"))) != 0 {
		t.Error("changes of the file are not safe")
	}
	open = store(s).Open()
	if n := syncs(t, s); n < 1 || n > open {
		t.Errorf("Sync: %d, of %d changes", n, open)
	}
}

// P20.1: Write of the n-th dirty block, with negative and great n.
func TestWrite(t *testing.T) {
	d, f, s := fresh(t)
	for _, n := range append(farFds, 0, 1) {
		if b, e := s.Write(n); b != 0 || e != api.ErrNone {
			t.Errorf("Write(%d) of none: %d, %d", n, b, e)
		}
	}
	opened(t, f, "/f", strings.Repeat("x", 600))
	answers(t, "Mkdir", f.Mkdir("/d"), api.OK)
	dirty := store(s).Dirty()
	many := len(dirty)
	if s.Dirty() != many || many < 5 {
		t.Fatal("Dirty", s.Dirty(), dirty)
	}
	for _, n := range append(farFds, 0, 1, many-1, many, many+1, 3*many+2, -many, -many-1, -5*many+2) {
		at := ((n % many) + many) % many
		was := d.Writes(dirty[at])
		if b, e := s.Write(n); b != dirty[at] || e != api.OK {
			t.Errorf("Write(%d): %d, %d, not %d", n, b, e, dirty[at])
		}
		if d.Writes(dirty[at]) != was+1 {
			t.Errorf("Write(%d) did not write %d once", n, dirty[at])
		}
		image, _ := store(s).Image(dirty[at])
		if now, _ := d.Read(dirty[at]); !bytes.Equal(now, image) {
			t.Errorf("Write(%d) wrote other bytes", n)
		}
		if s.Dirty() != many || s.Quiet() {
			t.Errorf("Write(%d) made something safe", n)
		}
	}
}

// P20.1: Flush makes safe what was written, and free what was given; how many.
func TestFlush(t *testing.T) {
	d, f, s := fresh(t)
	if n, e := s.Flush(); n != 0 || e != api.OK || !s.Quiet() {
		t.Error("Flush", n, e)
	}
	fd := opened(t, f, "/f", strings.Repeat("x", 600))
	answers(t, "Create", f.Create("/g"), api.OK)
	syncs(t, s)
	free(t, s, 2*43-4, 2*16-4)
	answers(t, "Truncate", f.Truncate(fd, 100), api.OK)
	answers(t, "Unlink", f.Unlink("/g"), api.OK)
	if n, e := s.Flush(); n != 0 || e != api.OK || len(d.Open()) != 0 {
		t.Error("Flush of nothing that was written", n, e)
	}
	for round, want := range []int{0, 3, 0} { // the name, and the bytes that are cut; both inodes; the header
		if s.Quiet() {
			t.Errorf("Quiet ahead of the round %d", round)
		}
		for n := range s.Dirty() {
			s.Write(n)
		}
		if n, e := s.Flush(); n != want || e != api.OK {
			t.Errorf("Flush in the round %d: %d, %d, not %d", round, n, e, want)
		}
		free(t, s, 2*43-4+min(round, 1)*2, 2*16-4+min(round, 1))
	}
	if !s.Quiet() {
		t.Error("not Quiet")
	}
	if n, e := s.Flush(); n != 0 || e != api.OK {
		t.Error("Flush", n, e)
	}
}

// P20.1: it is not quiet with a change that is open, nor with an act that waits.
func TestQuiet(t *testing.T) {
	_, f, s := fresh(t)
	if !s.Quiet() {
		t.Error("a new volume is not Quiet")
	}
	fd := opened(t, f, "/f", "hello")
	if s.Quiet() {
		t.Error("Quiet with changes that are open")
	}
	syncs(t, s)
	answers(t, "Truncate", f.Truncate(fd, 0), api.OK)
	push.All(store(s))
	if store(s).Open() != 0 || s.Dirty() != 0 || s.Quiet() {
		t.Error("Quiet with an act that waits")
	}
	if n, e := s.Fsync(fd); n != 0 || e != api.OK {
		t.Error("Fsync", n, e)
	}
	if volume(s).Work().Len() != 0 || s.Quiet() { // what was given is free, by a change
		t.Error("Fsync does not settle")
	}
	if n := syncs(t, s); n != 1 {
		t.Errorf("Sync: %d", n)
	}
	free(t, s, 2*43-1, 2*16-3)
	volume(s).Work().Later(0, push.Act{Kind: push.Other, N: 5})
	if s.Quiet() {
		t.Error("Quiet with an act that waits for nothing")
	}
	if n := syncs(t, s); n != 0 {
		t.Errorf("Sync: %d", n)
	}
}

// P20.2: numbers that nothing is open by.
func TestFsyncNoFd(t *testing.T) {
	d, f, s := fresh(t)
	fd := opened(t, f, "/f", "hello")
	opened(t, f, "/g", "hello")
	answers(t, "Close", f.Close(fd), api.OK)
	open, was := store(s).Open(), d.Bytes()
	for _, n := range append(farFds, fd, 2, 7) {
		if w, e := s.Fsync(n); w != 0 || e != api.ErrFd {
			t.Errorf("Fsync(%d): %d, %d", n, w, e)
		}
	}
	if store(s).Open() != open || !bytes.Equal(d.Bytes(), was) {
		t.Error("a refused Fsync made something safe")
	}
}

// P20.2: Fsync makes the file safe, and writes no block in which nothing of it stands.
func TestFsync(t *testing.T) {
	d, f, s := fresh(t)
	one := opened(t, f, "/f", strings.Repeat("f", 2000))
	two := opened(t, f, "/g", strings.Repeat("g", 2000))
	blocks, _ := files(s).Owned(slot(t, s, "/g"))
	n, e := s.Fsync(one)
	if e != api.OK || n < 9 {
		t.Errorf("Fsync: %d, %d", n, e)
	}
	for _, b := range blocks {
		if now, _ := d.Read(b); !bytes.Equal(now, bytes.Repeat([]byte{0xee}, api.Block)) {
			t.Errorf("Fsync of a file wrote the block %d of another one", b)
		}
	}
	if len(d.Open()) != 0 {
		t.Error("Fsync left writes that are not flushed")
	}
	stands(t, d, s, "/f", strings.Repeat("f", 2000))
	if n, e := s.Fsync(one); n != 0 || e != api.OK {
		t.Errorf("Fsync behind Fsync: %d, %d", n, e)
	}
	answers(t, "Write", f.Write(one, 5, []byte("x")), api.OK)
	if n, e := s.Fsync(one); n != 1 || e != api.OK {
		t.Errorf("Fsync of one byte: %d, %d", n, e)
	}
	stands(t, d, s, "/f", "fffffx"+strings.Repeat("f", 1994))
	answers(t, "Truncate", f.Truncate(two, 300), api.OK)
	was, _ := f.Free()
	if n, e := s.Fsync(two); n < 3 || e != api.OK {
		t.Errorf("Fsync: %d, %d", n, e)
	}
	if now, _ := f.Free(); now != was+7 { // six blocks of bytes, and one of names
		t.Errorf("Fsync freed %d blocks", now-was)
	}
	stands(t, d, s, "/g", strings.Repeat("g", 300))
	syncs(t, s)
}

// stands is P20.3: wherever the power goes, a file's size and bytes stand on the disk; nothing that it needs is free there.
func stands(t *testing.T, d *disk.Disk, s *sync.Sync, path, text string) {
	t.Helper()
	at := slot(t, s, path)
	for _, pick := range []int{0, 1, 99} {
		c := d.Copy()
		c.Crash(slices.Repeat([]int{pick}, c.Len()))
		n := mounted(t, c)
		i, e := files(n).Get(at)
		if i.Kind != api.File || i.Size != int64(len(text)) || e != api.OK {
			t.Errorf("behind a crash %s is %v, %d", path, i, e)
		}
		if b, e := files(n).Read(at, 0, api.MaxIO); string(b) != text || e != api.OK {
			t.Errorf("behind a crash %s has other bytes", path)
		}
		owned, _ := files(n).Owned(at)
		if slices.ContainsFunc(owned, func(b int) bool { return !files(n).Alloc().Taken(b) }) {
			t.Errorf("behind a crash blocks of %s are free", path)
		}
	}
}

// P20.2: how many writes it took is as of one push.One, or push.All, behind another.
func TestCounts(t *testing.T) {
	var two [2]*sync.Sync
	for k := range two {
		_, f, s := fresh(t)
		two[k] = s
		fd := opened(t, f, "/f", strings.Repeat("f", 3000))
		answers(t, "Mkdir", f.Mkdir("/d"), api.OK)
		answers(t, "Rename", f.Rename("/f", "/d/f"), api.OK)
		answers(t, "Write", f.Write(fd, 0, []byte(strings.Repeat("x", 999))), api.OK)
		answers(t, "Truncate", f.Truncate(fd, 500), api.OK)
	}
	writes := 0
	for _, id := range files(two[1]).Changes(slot(t, two[1], "/d/f")) {
		n, _ := push.One(store(two[1]), id)
		writes += n
	}
	files(two[1]).Alloc().Settle()
	if n, e := two[0].Fsync(0); n != writes || e != api.OK {
		t.Errorf("Fsync: %d, %d, not %d", n, e, writes)
	}
	if a, b := store(two[0]).Open(), store(two[1]).Open(); a != b {
		t.Errorf("Fsync left %d changes, not %d", a, b)
	}
	for _, s := range two {
		answers(t, "Truncate", s.Fs().Truncate(0, 100), api.OK)
		answers(t, "Rmdir", s.Fs().Rmdir("/d"), api.ErrFilled)
		answers(t, "Unlink", s.Fs().Unlink("/d/f"), api.OK)
	}
	writes, rounds := 0, 0
	for ; !two[1].Quiet(); rounds++ {
		n, _ := push.All(store(two[1]))
		files(two[1]).Alloc().Settle()
		writes += n
	}
	if n := syncs(t, two[0]); n != writes || rounds < 2 {
		t.Errorf("Sync: %d, not %d in %d rounds", n, writes, rounds)
	}
}

// P20.2: Fsync of a file whose changes wait for others: a file that was renamed has its new name.
func TestFsyncWaits(t *testing.T) {
	d, f, s := fresh(t)
	answers(t, "Mkdir", f.Mkdir("/a"), api.OK)
	fd := opened(t, f, "/a/f", "hello")
	syncs(t, s)
	answers(t, "Mkdir", f.Mkdir("/b"), api.OK)
	answers(t, "Rename", f.Rename("/a/f", "/b/g"), api.OK)
	answers(t, "Write", f.Write(fd, 5, []byte(" there")), api.OK)
	if n, e := s.Fsync(fd); n < 4 || e != api.OK {
		t.Errorf("Fsync: %d, %d", n, e)
	}
	after := mounted(t, crashed(d)).Fs()
	for path, want := range map[string]string{"/a": "[]", "/b": "[{g 3}]", "/": "[{a 2} {b 4}]"} {
		if items, e := after.Readdir(path); fmt.Sprint(items) != want || e != api.OK {
			t.Errorf("behind a crash %s has %v, %d, not %s", path, items, e, want)
		}
	}
	stands(t, d, s, "/b/g", "hello there")
}

// P20.3: a file that has a name all the time is not lost by the Fsync that makes the going of another one safe.
func TestFsyncOtherName(t *testing.T) {
	for what, goes := range map[string]func(f *fs.Fs) api.Errno{
		"unlink":               func(f *fs.Fs) api.Errno { return f.Unlink("/f") },
		"rename of another":    func(f *fs.Fs) api.Errno { return f.Rename("/other", "/f") },
		"rename of the second": func(f *fs.Fs) api.Errno { return f.Rename("/new/g", "/h") },
	} {
		d, f, s := fresh(t)
		fd := opened(t, f, "/f", "hello")
		answers(t, "Create", f.Create("/other"), api.OK)
		syncs(t, s)
		answers(t, "Mkdir", f.Mkdir("/new"), api.OK)
		answers(t, "Link", f.Link("/f", "/new/g"), api.OK)
		answers(t, what, goes(f), api.OK)
		if n, e := s.Fsync(fd); n < 3 || e != api.OK {
			t.Errorf("Fsync behind %s: %d, %d", what, n, e)
		}
		if all := found(t, crashed(d)); string(all[2].bytes) != "hello" {
			t.Errorf("behind %s, Fsync and a crash the file is lost: %v", what, all)
		}
	}
}

// P20.2: Fsync of a file that has no name any more, and of one that is open twice.
func TestFsyncWithoutName(t *testing.T) {
	d, f, s := fresh(t)
	fd := opened(t, f, "/f", "hello")
	again, e := f.Open("/f")
	if again != 1 || e != api.OK {
		t.Fatal("Open", again, e)
	}
	syncs(t, s)
	answers(t, "Write", f.Write(again, 0, []byte("H")), api.OK)
	if n, e := s.Fsync(fd); n != 1 || e != api.OK {
		t.Errorf("Fsync: %d, %d", n, e)
	}
	answers(t, "Unlink", f.Unlink("/f"), api.OK)
	answers(t, "Write", f.Write(fd, 0, []byte("J")), api.OK)
	if n, e := s.Fsync(again); n != 3 || e != api.OK { // the name, the bytes, the inode
		t.Errorf("Fsync: %d, %d", n, e)
	}
	after := mounted(t, crashed(d)).Fs()
	if items, e := after.Readdir("/"); len(items) != 0 || e != api.OK {
		t.Error("behind a crash there is the name", items, e)
	}
	answers(t, "Close", f.Close(fd), api.OK)
	if n, e := s.Fsync(fd); n != 0 || e != api.ErrFd {
		t.Errorf("Fsync: %d, %d", n, e)
	}
	if n, e := s.Fsync(again); n != 0 || e != api.OK {
		t.Errorf("Fsync: %d, %d", n, e)
	}
	answers(t, "Close", f.Close(again), api.OK)
	syncs(t, s)
	free(t, s, 2*43-1, 2*16-2)
}

// P20.2, P20.3: behind Sync all is there, mounted again, and nothing waits.
func TestSyncAgain(t *testing.T) {
	d, f, s := fresh(t)
	if n := syncs(t, s); n != 0 || len(d.Open()) != 0 {
		t.Errorf("Sync of a new volume: %d", n)
	}
	answers(t, "Mkdir", f.Mkdir("/a"), api.OK)
	answers(t, "Symlink", f.Symlink("a/g", "/l"), api.OK)
	fd := opened(t, f, "/f", "hello")
	answers(t, "Rename", f.Rename("/f", "/a/g"), api.OK)
	answers(t, "Link", f.Link("/a/g", "/h"), api.OK)
	if n := syncs(t, s); n < 5 {
		t.Errorf("Sync: %d", n)
	}
	if n := syncs(t, s); n != 0 {
		t.Errorf("Sync behind Sync: %d", n)
	}
	blocks, slots := f.Free()
	was := tree(t, s)
	c := mounted(t, crashed(d))
	if now := tree(t, c); now != was {
		t.Errorf("mounted again it is\n%s, not\n%s", now, was)
	}
	free(t, c, blocks, slots)
	answers(t, "Unlink", f.Unlink("/h"), api.OK)
	answers(t, "Unlink", f.Unlink("/l"), api.OK)
	answers(t, "Unlink", f.Unlink("/a/g"), api.OK)
	answers(t, "Close", f.Close(fd), api.OK)
	answers(t, "Rmdir", f.Rmdir("/a"), api.OK)
	free(t, s, blocks, slots)
	syncs(t, s)
	free(t, s, 2*43-1, 2*16-2)
	free(t, mounted(t, crashed(d)), 2*43-1, 2*16-2)
}

// P6: Sync ends, though an act waits for a change that was never made.
func TestSyncEnds(t *testing.T) {
	_, f, s := fresh(t)
	fd := opened(t, f, "/f", "hello")
	b, _, _ := files(s).Alloc().Block(0)
	answers(t, "FreeBlock", files(s).Alloc().FreeBlock(b, math.MaxInt64), api.OK)
	volume(s).Work().Later(1000, push.Act{Kind: push.Other, N: 1})
	if n, e := s.Sync(); n < 3 || e != api.OK || s.Quiet() || store(s).Open() != 0 {
		t.Errorf("Sync: %d, %d", n, e)
	}
	if n, e := s.Sync(); n != 0 || e != api.OK || s.Quiet() {
		t.Errorf("Sync: %d, %d", n, e)
	}
	if n, e := s.Fsync(fd); n != 0 || e != api.OK {
		t.Errorf("Fsync: %d, %d", n, e)
	}
	for range 1000 {
		answers(t, "Write", f.Write(fd, 0, []byte("h")), api.OK)
	}
	if n, e := s.Sync(); n != 1 || e != api.OK || s.Quiet() || volume(s).Work().Len() != 1 {
		t.Errorf("Sync: %d, %d", n, e)
	}
}

// An act may wait for a change that another act's becomes.
func TestSyncGoesOn(t *testing.T) {
	_, f, s := fresh(t)
	fd := opened(t, f, "/f", "hello")
	syncs(t, s)
	answers(t, "Truncate", f.Truncate(fd, 0), api.OK)
	next := files(s).Last(slot(t, s, "/f")) + 1
	volume(s).Work().Later(next, push.Act{Kind: push.FreeSlot, N: 2})
	syncs(t, s)
	free(t, s, 2*43-1, 2*16-2)
}

// Two that are made of one file system see what the other one did.
func TestTwo(t *testing.T) {
	_, f, s := fresh(t)
	other := sync.New(f)
	fd := opened(t, f, "/f", "hello")
	if s.Dirty() != other.Dirty() || s.Quiet() || other.Quiet() {
		t.Error("Dirty", s.Dirty(), other.Dirty())
	}
	if n, e := other.Fsync(fd); n < 2 || e != api.OK {
		t.Error("Fsync", n, e)
	}
	if n, e := s.Fsync(fd); n != 0 || e != api.OK {
		t.Error("Fsync", n, e)
	}
	syncs(t, other)
	syncs(t, s)
}
