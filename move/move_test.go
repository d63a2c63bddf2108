package move_test

import (
	"bytes"
	"math"
	"slices"
	"strings"
	"testing"

	"levee/alloc"
	"levee/api"
	"levee/disk"
	"levee/file"
	"levee/fs"
	"levee/geo"
	"levee/move"
	"levee/patch"
	"levee/push"
	"levee/sync"
	"levee/vol"
)

// shape is that of most volumes here: the data blocks 7 to 49, 55 to 97 and 103 to 145.
var shape = api.Geo{Group: 48, Inodes: 16, Groups: 3}

// far are numbers of no block, slot or group.
var far = []int{math.MinInt, math.MinInt + 1, -1 << 40, -2, -1, 4096, 1 << 32, math.MaxInt - 1, math.MaxInt}

func answers(t *testing.T, what string, got, want api.Errno) {
	t.Helper()
	if got != want {
		t.Errorf("%s: %d, not %d", what, got, want)
	}
}

func lists(t *testing.T, what string, got []int, want ...int) {
	t.Helper()
	if !slices.Equal(got, want) {
		t.Errorf("%s: %v, not %v", what, got, want)
	}
}

// formatted is a disk with a new volume whose data blocks were written over.
func formatted(t *testing.T, g api.Geo) *disk.Disk {
	t.Helper()
	d, _ := disk.Load(bytes.Repeat([]byte{0xee}, geo.Size(g)*api.Block))
	answers(t, "Format", vol.Format(d, g), api.OK)
	return d
}

func mounted(t *testing.T, d *disk.Disk) *move.Mover {
	t.Helper()
	f, e := fs.Mount(d)
	s := sync.New(f)
	m := move.New(s)
	if e != api.OK || m == nil || m.Sync() != s {
		t.Fatal("Mount", e)
	}
	return m
}

// fresh is a new volume, its disk, its file system and what moves its blocks.
func fresh(t *testing.T, g api.Geo) (*disk.Disk, *fs.Fs, *move.Mover) {
	t.Helper()
	d := formatted(t, g)
	m := mounted(t, d)
	return d, m.Sync().Fs(), m
}

func files(m *move.Mover) *file.Files { return m.Sync().Fs().Nodes().Tree().Dirs().Files() }

func blocks(m *move.Mover) *alloc.Alloc { return files(m).Alloc() }

func volume(m *move.Mover) *vol.Vol { return blocks(m).Vol() }

func store(m *move.Mover) *patch.Store { return volume(m).Store() }

// slot is where a path's thing stands.
func slot(t *testing.T, m *move.Mover, path string) int {
	t.Helper()
	way, e := m.Sync().Fs().Nodes().Tree().Walk(path, false)
	if e != api.OK {
		t.Fatal("Walk", path, e)
	}
	return way[len(way)-1]
}

// owned is what a path's thing owns.
func owned(t *testing.T, m *move.Mover, path string) []int {
	t.Helper()
	all, e := files(m).Owned(slot(t, m, path))
	answers(t, "Owned", e, api.OK)
	return all
}

// opened makes a file with some bytes from off on, and opens it.
func opened(t *testing.T, f *fs.Fs, path string, off int64, text string) int {
	t.Helper()
	answers(t, "Create", f.Create(path), api.OK)
	fd, e := f.Open(path)
	answers(t, "Open", e, api.OK)
	answers(t, "Write", f.Write(fd, off, []byte(text)), api.OK)
	return fd
}

func syncs(t *testing.T, m *move.Mover) {
	t.Helper()
	if n, e := m.Sync().Sync(); e != api.OK || !m.Sync().Quiet() {
		t.Errorf("Sync: %d, %d", n, e)
	}
}

// moved moves a block, and holds what P21.4 says of it.
func moved(t *testing.T, m *move.Mover, b, near int) int {
	t.Helper()
	was, _ := volume(m).Data(b)
	owner, e := m.Owner(b)
	answers(t, "Owner", e, api.OK)
	to, e := m.Block(b, near)
	if e != api.OK || to == b {
		t.Fatalf("Block(%d, %d): %d, %d", b, near, to, e)
	}
	if now, e := m.Owner(to); now != owner || e != api.OK {
		t.Errorf("Owner(%d) of what was %d: %d, %d, not %d", to, b, now, e, owner)
	}
	if now, e := m.Owner(b); now != 0 || e != api.ErrNone {
		t.Errorf("Owner(%d), which was moved: %d, %d", b, now, e)
	}
	if now, _ := volume(m).Data(to); !bytes.Equal(now, was) {
		t.Errorf("%d has other bytes than %d", to, b)
	}
	return to
}

// Of nil, and of nothing that is made safe.
func TestNil(t *testing.T) {
	if move.New(nil) != nil || move.New(new(sync.Sync)) != nil || move.New(sync.New(new(fs.Fs))) != nil {
		t.Error("New of nothing that is made safe")
	}
	for what, m := range map[string]*move.Mover{"nil": nil, "one that was not made": new(move.Mover)} {
		if m.Sync() != nil || len(m.Things()) != 0 {
			t.Errorf("Sync, Things of %s: %v, %v", what, m.Sync(), m.Things())
		}
		for _, n := range append(far, 0, 1, 2, 5, 7) {
			if s, e := m.Owner(n); s != 0 || e != api.ErrNil {
				t.Errorf("Owner(%d) of %s: %d, %d", n, what, s, e)
			}
			if b, e := m.Block(n, 5); b != 0 || e != api.ErrNil {
				t.Errorf("Block(%d) of %s: %d, %d", n, what, b, e)
			}
			if len(m.Blocks(n)) != 0 || len(m.Slots(n)) != 0 || m.Waits(n) != 0 {
				t.Errorf("Blocks, Slots, Waits(%d) of %s", n, what)
			}
		}
	}
}

// The example of the chapter.
func TestExample(t *testing.T) {
	_, f, m := fresh(t, api.Geo{Group: 32, Inodes: 8, Groups: 1})
	answers(t, "Mkdir", f.Mkdir("/a"), api.OK)
	fd := opened(t, f, "/f", 0, "hello")
	lists(t, "Owned", owned(t, m, "/"), 5)
	lists(t, "Owned", owned(t, m, "/f"), 6)
	if to := moved(t, m, 6, 20); to != 21 {
		t.Errorf("Block: %d", to)
	}
	if to := moved(t, m, 5, 20); to != 22 {
		t.Errorf("Block: %d", to)
	}
	if s, e := m.Owner(21); s != slot(t, m, "/f") || e != api.OK {
		t.Error("Owner", s, e)
	}
	if b, e := f.Read(fd, 0, 9); string(b) != "hello" || e != api.OK {
		t.Errorf("Read: %q, %d", b, e)
	}
}

// P21.1: a new volume has the root alone.
func TestNew(t *testing.T) {
	_, _, m := fresh(t, shape)
	lists(t, "Things", m.Things(), vol.Root)
	for k := range shape.Groups {
		lists(t, "Blocks", m.Blocks(k))
		lists(t, "Slots", m.Slots(k))
		if m.Waits(k) != 0 {
			t.Error("Waits", k, m.Waits(k))
		}
	}
	for b := range geo.Size(shape) {
		want := api.ErrRange
		if kind, _ := geo.Kind(shape, b); kind == geo.Data {
			want = api.ErrNone
		}
		s, e := m.Owner(b)
		to, g := m.Block(b, b)
		if s != 0 || e != want || to != 0 || g != want {
			t.Errorf("Owner, Block(%d): %d, %d; %d, %d", b, s, e, to, g)
		}
	}
}

// P21.1, P21.2: numbers of no blocks and of no groups, near whatever.
func TestOutside(t *testing.T) {
	d, f, m := fresh(t, shape)
	opened(t, f, "/f", 0, strings.Repeat("f", 4000))
	was, open := d.Bytes(), store(m).Open()
	for _, n := range append(far, 0, 1, 2, 3, 6, 50, 51, 98, 102, 146, 147) {
		if s, e := m.Owner(n); s != 0 || e != api.ErrRange {
			t.Errorf("Owner(%d): %d, %d", n, s, e)
		}
		for _, near := range append(far, 0, 7, 20) {
			if b, e := m.Block(n, near); b != 0 || e != api.ErrRange {
				t.Errorf("Block(%d, %d): %d, %d", n, near, b, e)
			}
		}
	}
	for _, k := range append(far, 3, 4, 15, 16) {
		if len(m.Blocks(k)) != 0 || len(m.Slots(k)) != 0 || m.Waits(k) != 0 {
			t.Errorf("the group %d has %v, %v, %d", k, m.Blocks(k), m.Slots(k), m.Waits(k))
		}
	}
	if !bytes.Equal(d.Bytes(), was) || store(m).Open() != open {
		t.Error("what was refused changed something")
	}
}

// filled is a volume with things of all kinds, in two groups: a file with all kinds of blocks of names among them.
func filled(t *testing.T) (*disk.Disk, *fs.Fs, *move.Mover, string) {
	t.Helper()
	d, f, m := fresh(t, shape)
	answers(t, "Mkdir", f.Mkdir("/a"), api.OK)
	answers(t, "Symlink", f.Symlink("a/f", "/l"), api.OK)
	text := strings.Repeat("0123456789abcdef", 225)
	fd := opened(t, f, "/a/f", 0, text)
	answers(t, "Write", f.Write(fd, 70*api.Block, []byte(text[:600])), api.OK)
	for _, path := range []string{"/a/1", "/a/2", "/a/3", "/a/4", "/a/5", "/a/6", "/a/7", "/a/8", "/b", "/c", "/d", "/e"} {
		answers(t, "Create", f.Create(path), api.OK)
	}
	return d, f, m, text
}

// P21.1: Things, Slots, Blocks and Owner tell of all that there is, in each group.
func TestThings(t *testing.T) {
	_, f, m, _ := filled(t)
	all := []int{1, 2, 3, 4, 5, 6, 7, 8, 9, 10, 11, 12, 13, 14, 15, 16}
	lists(t, "Things", m.Things(), all...)
	lists(t, "Slots", m.Slots(0), all[1:15]...)
	lists(t, "Slots", m.Slots(1), 16)
	lists(t, "Slots", m.Slots(2))
	owner := map[int]int{}
	for _, s := range m.Things() {
		own, _ := files(m).Owned(s)
		for _, b := range own {
			owner[b] = s
		}
	}
	var count int
	for k := range shape.Groups {
		var want []int
		first, past := geo.Range(shape, k)
		for b := first; b < past; b++ {
			s, e := m.Owner(b)
			if s != owner[b] || (e == api.OK) != (s != 0) || (e == api.ErrNone) != (s == 0) {
				t.Errorf("Owner(%d): %d, %d, not %d", b, s, e, owner[b])
			}
			if s != 0 {
				want = append(want, b)
			}
		}
		lists(t, "Blocks", m.Blocks(k), want...)
		count += len(want)
	}
	if count != len(owner) || count != 1+1+2+15+1+2+3 { // the root's, the link's, a's; of the file: bytes, In, Din and what it names, bytes
		t.Errorf("%d blocks are owned, of %d", count, len(owner))
	}
	answers(t, "Unlink", f.Unlink("/a/3"), api.OK)
	all = slices.Delete(all, 6, 7)
	lists(t, "Things behind Unlink", m.Things(), all...)
	lists(t, "Slots behind Unlink", m.Slots(0), all[1:14]...)
}

// P21.1: an inode that can not be is no thing, whatever stands beside it.
func TestBrokenInode(t *testing.T) {
	d, f, m := fresh(t, shape)
	opened(t, f, "/f", 0, "hello")
	opened(t, f, "/g", 0, "hello")
	own := owned(t, m, "/f")
	syncs(t, m)
	b, place, _ := geo.Place(shape, 2)
	table, _ := d.Read(b)
	table[place*api.InodeSize+63] ^= 0xff
	d.Write(b, table)
	m = mounted(t, d)
	if _, e := files(m).Get(2); e == api.OK {
		t.Fatal("the inode can be")
	}
	lists(t, "Things", m.Things(), 1, 3)
	lists(t, "Slots", m.Slots(0), 3)
	if s, e := m.Owner(own[0]); s != 0 || e != api.ErrNone || slices.Contains(m.Blocks(0), own[0]) {
		t.Errorf("Owner: %d, %d", s, e)
	}
}

// P21.2: each block is moved: of bytes, of names, of a directory, of a link, of the root; near a block of another group.
func TestEachBlock(t *testing.T) {
	d, f, m, text := filled(t)
	tells := func(m *move.Mover, what string) {
		t.Helper()
		f := m.Sync().Fs()
		fd, e := f.Open("/l")
		answers(t, "Open", e, api.OK)
		b, _ := f.Read(fd, 0, api.MaxIO)
		c, _ := f.Read(fd, 70*api.Block, api.MaxIO)
		if string(b[:len(text)]) != text || string(c) != text[:600] || !bytes.Equal(b[len(text):], make([]byte, api.MaxIO-len(text))) {
			t.Errorf("%s the file has other bytes", what)
		}
		answers(t, "Close", f.Close(fd), api.OK)
		root, _ := f.Readdir("/")
		a, _ := f.Readdir("/a")
		link, _ := f.Readlink("/l")
		if len(root) != 6 || len(a) != 9 || link != "a/f" {
			t.Errorf("%s there are %v, %v, %q", what, root, a, link)
		}
	}
	all := m.Blocks(0)
	if len(all) < 20 {
		t.Fatal("Blocks", all)
	}
	for _, b := range all {
		first, past := geo.Range(shape, 2)
		if to := moved(t, m, b, first); to <= first || to >= past {
			t.Errorf("Block(%d, %d): %d", b, first, to)
		}
		tells(m, "moved")
	}
	lists(t, "Blocks", m.Blocks(0))
	if len(m.Blocks(2)) != len(all) || m.Waits(0) != len(all) {
		t.Errorf("Blocks, Waits: %v, %d", m.Blocks(2), m.Waits(0))
	}
	free, _ := f.Free()
	syncs(t, m)
	if now, _ := f.Free(); now != free+len(all) || m.Waits(0) != 0 {
		t.Errorf("%d blocks are free, %d wait", now-free, m.Waits(0))
	}
	tells(m, "safe")
	d.Crash(nil)
	tells(mounted(t, d), "mounted again")
}

// P21.2: the block is moved to where alloc.Block near one is.
func TestNear(t *testing.T) {
	_, f, m := fresh(t, shape)
	opened(t, f, "/f", 0, "hello")
	b := owned(t, m, "/f")[0]
	lists(t, "Owned", []int{b}, 8) // behind the root's
	for _, c := range []struct{ near, to int }{
		{b, 9},
		{48, 49},
		{49, 10}, // round; what was moved waits
		{103, 104},
		{145, 103},
		{54, 11}, // of a table
		{0, 12},
		{math.MinInt, 13},
		{math.MaxInt, 14},
		{55, 56},
	} {
		if to := moved(t, m, b, c.near); to != c.to {
			t.Errorf("Block near %d: %d, not %d", c.near, to, c.to)
			return
		}
		b = c.to
	}
}

// P21.1, P21.2: a block that waits to be free is owned by nothing, and not moved; and so is one that was taken for nothing.
func TestNoOwner(t *testing.T) {
	_, f, m := fresh(t, shape)
	fd := opened(t, f, "/f", 0, strings.Repeat("f", 1000))
	syncs(t, m)
	own := owned(t, m, "/f")
	answers(t, "Truncate", f.Truncate(fd, 256), api.OK)
	taken, _, e := blocks(m).Block(60)
	answers(t, "alloc.Block", e, api.OK)
	open, waits := store(m).Open(), volume(m).Work().Len()
	for _, b := range append(own[1:], taken, 100) {
		if s, e := m.Owner(b); s != 0 || e == api.OK {
			t.Errorf("Owner(%d): %d, %d", b, s, e)
		}
		if to, e := m.Block(b, 60); to != 0 || e == api.OK {
			t.Errorf("Block(%d): %d, %d", b, to, e)
		}
		if !blocks(m).Taken(b) && b != 100 {
			t.Errorf("%d is not taken", b)
		}
	}
	if store(m).Open() != open || volume(m).Work().Len() != waits {
		t.Error("what was refused changed something")
	}
	lists(t, "Blocks", m.Blocks(0), 7, own[0])
	lists(t, "Blocks", m.Blocks(1))
	if m.Waits(0) != 3 || m.Waits(1) != 0 {
		t.Errorf("Waits: %d, %d", m.Waits(0), m.Waits(1))
	}
	syncs(t, m)
	if m.Waits(0) != 0 {
		t.Errorf("Waits: %d", m.Waits(0))
	}
	for _, b := range own[1:] {
		if to, e := m.Block(b, 60); to != 0 || e != api.ErrNone {
			t.Errorf("Block(%d): %d, %d", b, to, e)
		}
	}
}

// P21.1: Waits tells blocks and slots apart by their groups, and passes other acts over.
func TestWaits(t *testing.T) {
	_, f, m, _ := filled(t)
	syncs(t, m)
	work := volume(m).Work()
	for _, path := range []string{"/b", "/c", "/e"} { // the last one's slot is of the group 1
		answers(t, "Unlink", f.Unlink(path), api.OK)
	}
	for k, want := range []int{2, 1, 0} {
		if n := m.Waits(k); n != want {
			t.Errorf("Waits(%d): %d, not %d", k, n, want)
		}
	}
	answers(t, "Later", work.Later(1<<40, push.Act{Kind: push.Other, N: 20}), api.OK)
	answers(t, "Later", work.Later(1<<40, push.Act{Kind: push.FreeBlock, N: 51}), api.OK) // of a table
	answers(t, "Later", work.Later(1<<40, push.Act{Kind: push.FreeBlock, N: math.MaxInt}), api.OK)
	answers(t, "Later", work.Later(1<<40, push.Act{Kind: push.FreeSlot, N: -1}), api.OK)
	for _, k := range []int{0, 1} { // as many blocks
		b := m.Blocks(k)
		if k == 1 {
			b = []int{moved(t, m, m.Blocks(0)[0], 60)}
		}
		moved(t, m, b[0], 110)
	}
	for k, want := range []int{4, 2, 0} {
		if n := m.Waits(k); n != want {
			t.Errorf("Waits(%d): %d, not %d", k, n, want)
		}
	}
	if n := m.Waits(-1); n != 0 {
		t.Errorf("Waits(-1): %d", n)
	}
	push.All(store(m))
	if m.Waits(0) != 4 || m.Waits(1) != 2 {
		t.Error("what is safe, and not settled, waits no more")
	}
	blocks(m).Settle()
	if m.Waits(0) != 0 || m.Waits(1) != 0 || work.Len() != 4 {
		t.Errorf("Waits behind Settle: %d, %d", m.Waits(0), m.Waits(1))
	}
}

// P21.2: nothing is moved into a group that is frozen, but out of it; ErrSpace, if all others are full.
func TestFrozen(t *testing.T) {
	_, f, m, _ := filled(t)
	answers(t, "Freeze", blocks(m).Freeze(0, true), api.OK)
	answers(t, "Freeze", blocks(m).Freeze(2, true), api.OK)
	for _, near := range []int{10, 104, 0} {
		for _, b := range m.Blocks(0)[:3] {
			if to := moved(t, m, b, near); to < 55 || to > 97 {
				t.Errorf("Block(%d, %d): %d", b, near, to)
			}
		}
	}
	if n := m.Waits(0); n != 9 {
		t.Errorf("Waits: %d", n)
	}
	for {
		if free, _ := f.Free(); free == 0 {
			break
		}
		blocks(m).Block(0)
	}
	open, waits := store(m).Open(), volume(m).Work().Len()
	for _, b := range append(m.Blocks(0), m.Blocks(1)...) {
		if to, e := m.Block(b, 104); to != 0 || e != api.ErrSpace {
			t.Errorf("Block(%d): %d, %d", b, to, e)
		}
	}
	if store(m).Open() != open || volume(m).Work().Len() != waits {
		t.Error("what was refused changed something")
	}
	answers(t, "Freeze", blocks(m).Freeze(2, false), api.OK)
	if to := moved(t, m, m.Blocks(0)[0], 104); to != 105 {
		t.Errorf("Block: %d", to)
	}
}

// P21.2: a volume without a free block: ErrSpace behind Owner's errors; a block that waits is none.
func TestFull(t *testing.T) {
	_, f, m := fresh(t, api.Geo{Group: 16, Inodes: 8, Groups: 2})
	fd := opened(t, f, "/f", 0, "")
	for n := int64(0); f.Write(fd, n*api.Block, []byte("x")) == api.OK; n++ {
	}
	own := owned(t, m, "/f")
	to := moved(t, m, own[0], 30)
	for {
		if _, _, e := blocks(m).Block(0); e == api.ErrSpace {
			break
		}
	}
	for _, b := range m.Blocks(0) {
		if got, e := m.Block(b, 30); got != 0 || e != api.ErrSpace {
			t.Errorf("Block(%d): %d, %d", b, got, e)
		}
	}
	if got, e := m.Block(own[0], 30); got != 0 || e != api.ErrNone {
		t.Errorf("Block of one that waits: %d, %d", got, e)
	}
	if got, e := m.Block(4, 30); got != 0 || e != api.ErrRange {
		t.Errorf("Block of a table's: %d, %d", got, e)
	}
	if n, e := m.Sync().Fsync(fd); n == 0 || e != api.OK {
		t.Error("Fsync", n, e)
	}
	if again := moved(t, m, to, 30); again != own[0] {
		t.Errorf("Block: %d, not %d, which alone is free", again, own[0])
	}
}

// P21.3: blocks of a file that is open and has no name any more, of one that is open twice, of a directory that is renamed.
func TestBetween(t *testing.T) {
	_, f, m := fresh(t, shape)
	fd := opened(t, f, "/f", 0, strings.Repeat("f", 2000))
	answers(t, "Mkdir", f.Mkdir("/a"), api.OK)
	answers(t, "Rename", f.Rename("/f", "/a/g"), api.OK)
	moved(t, m, owned(t, m, "/a")[0], 60)
	answers(t, "Rename", f.Rename("/a", "/b"), api.OK)
	moved(t, m, owned(t, m, "/b")[0], 110)
	moved(t, m, owned(t, m, "/")[0], 110)
	at := slot(t, m, "/b/g")
	answers(t, "Unlink", f.Unlink("/b/g"), api.OK)
	for _, b := range m.Blocks(0) {
		moved(t, m, b, 60)
	}
	answers(t, "Write", f.Write(fd, 1990, []byte("0123456789abc")), api.OK)
	answers(t, "Truncate", f.Truncate(fd, 2001), api.OK)
	own, _ := files(m).Owned(at)
	for _, b := range own {
		moved(t, m, b, 20)
	}
	if b, e := f.Read(fd, 0, api.MaxIO); string(b) != strings.Repeat("f", 1990)+"0123456789a" || e != api.OK {
		t.Errorf("Read: %q, %d", b, e)
	}
	answers(t, "Close", f.Close(fd), api.OK)
	answers(t, "Rmdir", f.Rmdir("/b"), api.OK)
	syncs(t, m)
	lists(t, "Things", m.Things(), 1)
	if free, slots := f.Free(); free != 3*43-1 || slots != 3*16-2 {
		t.Errorf("Free: %d, %d", free, slots)
	}
}

// Two that are made of one file system see what the other one did; what is answered is its caller's.
func TestTwo(t *testing.T) {
	_, f, m := fresh(t, shape)
	other := move.New(m.Sync())
	opened(t, f, "/f", 0, strings.Repeat("f", 1000))
	b := m.Blocks(0)[1]
	to := moved(t, m, b, 60)
	if s, e := other.Owner(to); s != 2 || e != api.OK || other.Waits(0) != 1 {
		t.Errorf("Owner: %d, %d", s, e)
	}
	for _, list := range [][]int{m.Things(), m.Blocks(0), m.Slots(0)} {
		for i := range list {
			list[i] = -7
		}
		_ = append(list, -7)
	}
	lists(t, "Things", m.Things(), 1, 2)
	lists(t, "Slots", m.Slots(0), 2)
	lists(t, "Blocks", m.Blocks(1), to)
	if slices.Contains(m.Blocks(0), -7) {
		t.Error("Blocks is kept")
	}
}
