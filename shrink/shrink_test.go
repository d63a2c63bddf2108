package shrink_test

import (
	"bytes"
	"fmt"
	"math"
	"slices"
	"strings"
	"testing"

	"levee/alloc"
	"levee/api"
	"levee/disk"
	"levee/file"
	"levee/fs"
	"levee/geo"
	"levee/grow"
	"levee/imove"
	"levee/move"
	"levee/patch"
	"levee/shrink"
	"levee/super"
	"levee/sync"
	"levee/vol"
)

// What each group of most volumes here gives: 24 blocks but its header and its table, and 8 slots.
const (
	perBlocks = 21
	perSlots  = 8
)

// wrong are numbers of groups that no volume can come to have.
var wrong = []int{math.MinInt, math.MinInt + 1, -1 << 40, -17, -2, -1, 0, 17, 4096, 1 << 32, 1<<32 + 1, math.MaxInt - 1, math.MaxInt}

// shape is that of most volumes here.
func shape(groups int) api.Geo {
	return api.Geo{Group: 24, Inodes: 8, Groups: groups}
}

// block is the n-th data block of a group, slotOf the n-th slot.
func block(k, n int) int { return 2 + 24*k + 3 + n }

func slotOf(k, n int) int { return 8*k + n }

func answers(t *testing.T, what string, got, want api.Errno) {
	t.Helper()
	if got != want {
		t.Errorf("%s: %d, not %d", what, got, want)
	}
}

// formatted is a disk of so many blocks, that were all written over, with a new volume.
func formatted(t *testing.T, blocks int, g api.Geo) *disk.Disk {
	t.Helper()
	d, _ := disk.Load(bytes.Repeat([]byte{0xee}, blocks*api.Block))
	answers(t, "Format", vol.Format(d, g), api.OK)
	return d
}

// mounted is what makes the volume of a disk smaller.
func mounted(t *testing.T, d *disk.Disk) *shrink.Shrink {
	t.Helper()
	f, e := fs.Mount(d)
	x := imove.New(move.New(sync.New(f)))
	s := shrink.New(x)
	if e != api.OK || s == nil || s.Slots() != x {
		t.Fatal("Mount", e)
	}
	return s
}

// fresh is a new volume of so many groups, its disk, its file system and what makes it smaller.
func fresh(t *testing.T, groups int) (*disk.Disk, *fs.Fs, *shrink.Shrink) {
	t.Helper()
	d := formatted(t, geo.Size(shape(groups)), shape(groups))
	s := mounted(t, d)
	return d, system(s), s
}

func mover(s *shrink.Shrink) *move.Mover { return s.Slots().Mover() }

func system(s *shrink.Shrink) *fs.Fs { return mover(s).Sync().Fs() }

func files(s *shrink.Shrink) *file.Files { return system(s).Nodes().Tree().Dirs().Files() }

func taken(s *shrink.Shrink) *alloc.Alloc { return files(s).Alloc() }

func volume(s *shrink.Shrink) *vol.Vol { return taken(s).Vol() }

func store(s *shrink.Shrink) *patch.Store { return volume(s).Store() }

func tells(t *testing.T, s *shrink.Shrink) string {
	t.Helper()
	return told(t, s.Slots())
}

func syncs(t *testing.T, s *shrink.Shrink) {
	t.Helper()
	if n, e := mover(s).Sync().Sync(); e != api.OK || !mover(s).Sync().Quiet() {
		t.Errorf("Sync: %d, %d", n, e)
	}
}

// slot is where a path's thing stands.
func slot(t *testing.T, s *shrink.Shrink, path string) int {
	t.Helper()
	way, e := system(s).Nodes().Tree().Walk(path, false)
	if e != api.OK {
		t.Fatal("Walk", path, e)
	}
	return way[len(way)-1]
}

// opened makes a file with some bytes, and opens it.
func opened(t *testing.T, f *fs.Fs, path, text string) int {
	t.Helper()
	answers(t, "Create", f.Create(path), api.OK)
	fd, e := f.Open(path)
	answers(t, "Open", e, api.OK)
	answers(t, "Write", f.Write(fd, 0, []byte(text)), api.OK)
	return fd
}

// sent moves all blocks of a path's thing into a group, and its slot, if that is to be moved, too.
func sent(t *testing.T, s *shrink.Shrink, path string, k int, withSlot bool) {
	t.Helper()
	at := slot(t, s, path)
	own, e := files(s).Owned(at)
	answers(t, "Owned", e, api.OK)
	for _, b := range own {
		if _, of := geo.Kind(volume(s).Geo(), b); of == k {
			continue
		}
		if to, e := mover(s).Block(b, block(k, perBlocks-1)); e != api.OK || to < block(k, 0) || to > block(k, perBlocks-1) {
			t.Fatalf("Block(%d): %d, %d", b, to, e)
		}
	}
	if !withSlot {
		return
	}
	if to, e := s.Slots().Move(at, slotOf(k, perSlots-1)); e != api.OK || geo.Of(volume(s).Geo(), to) != k {
		t.Fatalf("Move(%d): %d, %d", at, to, e)
	}
}

// begins lets a volume get smaller.
func begins(t *testing.T, s *shrink.Shrink, groups int) {
	t.Helper()
	answers(t, fmt.Sprintf("Begin(%d)", groups), s.Begin(groups), api.OK)
	target(t, s, groups)
}

// steps holds what a Step answers.
func steps(t *testing.T, s *shrink.Shrink, over bool, want api.Errno) {
	t.Helper()
	if o, e := s.Step(); o != over || e != want {
		t.Errorf("Step: %t, %d, not %t, %d", o, e, over, want)
	}
}

// ends does so many steps, of which the last one is the end.
func ends(t *testing.T, s *shrink.Shrink, many int, want api.Errno) {
	t.Helper()
	for range many - 1 {
		steps(t, s, false, api.OK)
	}
	steps(t, s, true, want)
	target(t, s, 0)
	left(t, s, 0, 0)
	frozen(t, s)
}

// target holds how many groups there are to be.
func target(t *testing.T, s *shrink.Shrink, want int) {
	t.Helper()
	if n := s.Target(); n != want {
		t.Errorf("Target: %d, not %d", n, want)
	}
}

// left holds how many blocks and slots are to be moved.
func left(t *testing.T, s *shrink.Shrink, blocks, slots int) {
	t.Helper()
	if b, n := s.Left(); b != blocks || n != slots {
		t.Errorf("Left: %d, %d, not %d, %d", b, n, blocks, slots)
	}
}

// frozen holds which groups are frozen.
func frozen(t *testing.T, s *shrink.Shrink, want ...int) {
	t.Helper()
	var got []int
	for k := range api.MaxGroups {
		if taken(s).Frozen(k) {
			got = append(got, k)
		}
	}
	if !slices.Equal(got, want) {
		t.Errorf("frozen are %v, not %v", got, want)
	}
}

// free holds what is free.
func free(t *testing.T, s *shrink.Shrink, blocks, slots int) {
	t.Helper()
	if b, n := system(s).Free(); b != blocks || n != slots {
		t.Errorf("Free: %d, %d, not %d, %d", b, n, blocks, slots)
	}
}

// is holds the volume's shape and generation, as it is in memory and as it would be behind a crash.
func is(t *testing.T, d *disk.Disk, s *shrink.Shrink, groups int, gen int64) {
	t.Helper()
	if v := volume(s); v.Geo() != shape(groups) || v.Gen() != gen {
		t.Errorf("it is %v, %d, not of %d groups, %d", v.Geo(), v.Gen(), groups, gen)
	}
	c := d.Copy()
	c.Crash(nil)
	if v, e := vol.Mount(c); e != api.OK || v.Geo() != shape(groups) || v.Gen() != gen {
		t.Errorf("on the disk it is %v, %d, %d, not of %d groups, %d", v.Geo(), v.Gen(), e, groups, gen)
	}
}

// same holds that a call changes nothing at all.
func same(t *testing.T, d *disk.Disk, s *shrink.Shrink, what string, call func()) {
	t.Helper()
	state := func() string {
		b, n := s.Left()
		x, y := system(s).Free()
		var f [api.MaxGroups]bool
		for k := range f {
			f[k] = taken(s).Frozen(k)
		}
		return fmt.Sprint(store(s).Open(), volume(s).Work().List(), s.Target(), volume(s).Geo(), volume(s).Gen(), b, n, x, y, f)
	}
	was, disk := state(), d.Bytes()
	call()
	if now := state(); now != was || !bytes.Equal(d.Bytes(), disk) {
		t.Errorf("%s changed something: %s, not %s", what, now, was)
	}
}

// Of nil, and of nothing that moves things.
func TestNil(t *testing.T) {
	if shrink.New(nil) != nil || shrink.New(new(imove.Slots)) != nil || shrink.New(imove.New(nil)) != nil || shrink.New(imove.New(new(move.Mover))) != nil {
		t.Error("New of nothing that moves things")
	}
	for what, s := range map[string]*shrink.Shrink{"nil": nil, "one that was not made": new(shrink.Shrink)} {
		if s.Slots() != nil {
			t.Errorf("Slots of %s", what)
		}
		for _, n := range append(wrong, 1, 2, 3, 16) {
			answers(t, "Begin of "+what, s.Begin(n), api.ErrNil)
		}
		steps(t, s, false, api.ErrNil)
		answers(t, "Stop of "+what, s.Stop(), api.ErrNil)
		target(t, s, 0)
		left(t, s, 0, 0)
	}
}

// The example of the chapter.
func TestExample(t *testing.T) {
	d, f, s := fresh(t, 3)
	opened(t, f, "/f", "hello")
	sent(t, s, "/f", 2, false)
	begins(t, s, 2)
	left(t, s, 1, 0)
	steps(t, s, false, api.OK)
	left(t, s, 0, 0)
	is(t, d, s, 3, 1)
	steps(t, s, true, api.OK)
	target(t, s, 0)
	is(t, d, s, 2, 2)
}

// P24.1: numbers that can not be, and those that are not fewer; what is refused changes nothing.
func TestBeginRefused(t *testing.T) {
	for _, groups := range []int{1, 2, 7, 16} {
		d, f, s := fresh(t, groups)
		opened(t, f, "/f", "hello")
		refused := func(n int) {
			t.Helper()
			same(t, d, s, fmt.Sprintf("Begin(%d)", n), func() {
				answers(t, fmt.Sprintf("Begin(%d) of %d groups", n, groups), s.Begin(n), api.ErrArg)
			})
			target(t, s, 0)
			frozen(t, s)
		}
		for _, n := range wrong {
			refused(n)
		}
		for n := groups; n <= 16; n++ {
			refused(n)
		}
		for n := 1; n < groups; n++ {
			begins(t, s, n)
			answers(t, "Stop", s.Stop(), api.OK)
		}
	}
}

// P24.1: with something under way nothing begins, whatever the number; without, there is no step, and nothing is stopped.
func TestState(t *testing.T) {
	d, f, s := fresh(t, 4)
	opened(t, f, "/f", "hello")
	sent(t, s, "/f", 3, true)
	busy := func() {
		t.Helper()
		for _, n := range append(wrong, 1, 2, 3, 4, 5, 16) {
			same(t, d, s, "Begin", func() { answers(t, "Begin", s.Begin(n), api.ErrState) })
		}
	}
	idle := func() {
		t.Helper()
		for range 3 {
			same(t, d, s, "Step", func() { steps(t, s, false, api.ErrState) })
			same(t, d, s, "Stop", func() { answers(t, "Stop", s.Stop(), api.ErrState) })
		}
		target(t, s, 0)
		left(t, s, 0, 0)
	}
	idle()
	begins(t, s, 3)
	busy()
	answers(t, "Stop", s.Stop(), api.OK)
	idle()
	begins(t, s, 2)
	for range 2 {
		busy()
		steps(t, s, false, api.OK)
	}
	busy()
	steps(t, s, true, api.OK)
	idle()
	is(t, d, s, 2, 2)
}

// P24.1, P24.3: Begin freezes the groups that go, and those alone; less is free by what was free there. It writes nothing.
func TestBegin(t *testing.T) {
	for groups := 1; groups <= 3; groups++ {
		d, f, s := fresh(t, 4)
		opened(t, f, "/f", strings.Repeat("f", 1000))
		opened(t, f, "/g", strings.Repeat("g", 1000))
		sent(t, s, "/f", 3, true)
		sent(t, s, "/g", 1, true)
		syncs(t, s)
		was, open, text := d.Bytes(), store(s).Open(), tells(t, s)
		begins(t, s, groups)
		frozen(t, s, []int{1, 2, 3}[groups-1:]...)
		less := []struct{ blocks, slots int }{{1, 0}, {5, 1}, {5, 1}}[groups-1]
		free(t, s, groups*perBlocks-less.blocks, groups*perSlots-2-less.slots)
		if !bytes.Equal(d.Bytes(), was) || store(s).Open() != open || tells(t, s) != text {
			t.Error("Begin changed something")
		}
		left(t, s, []int{8, 4, 4}[groups-1], []int{2, 1, 1}[groups-1])
		is(t, d, s, 4, 1)
		answers(t, "Stop", s.Stop(), api.OK)
		frozen(t, s)
		free(t, s, 4*perBlocks-9, 4*perSlots-4)
	}
}

// P24.3: nothing is taken any more of the groups that go: not by a call, not by what is moved.
func TestNothingTaken(t *testing.T) {
	_, f, s := fresh(t, 3)
	fd := opened(t, f, "/f", "hello")
	sent(t, s, "/f", 2, true)
	begins(t, s, 2)
	for n := 0; f.Create(fmt.Sprint("/", n)) == api.OK; n++ {
		mover(s).Block(block(0, 0), block(2, 5))
	}
	for off := int64(1); f.Write(fd, off*api.Block, []byte("f")) == api.OK; off++ {
		syncs(t, s)
	}
	if to, e := s.Slots().Move(slotOf(0, 3), slotOf(2, 4)); e == api.OK && to >= slotOf(2, 0) {
		t.Errorf("Move: %d", to)
	}
	left(t, s, 1, 1)
	if b, n, e := taken(s).Used(2); b != 1 || n != 1 || e != api.OK {
		t.Errorf("Used: %d, %d, %d", b, n, e)
	}
}

// P24.1: Left counts blocks of bytes and of names, and slots, of all groups that go: not the root's, not what is given and waits, not what nobody owns.
func TestLeft(t *testing.T) {
	_, f, s := fresh(t, 5)
	fd := opened(t, f, "/f", strings.Repeat("f", 8*api.Block)) // and a block of names
	answers(t, "Mkdir", f.Mkdir("/a"), api.OK)
	answers(t, "Create", f.Create("/a/x"), api.OK)
	answers(t, "Symlink", f.Symlink("/a", "/l"), api.OK)
	sent(t, s, "/f", 2, true)
	sent(t, s, "/a", 3, true)
	sent(t, s, "/l", 4, true)
	left(t, s, 0, 0)
	for _, c := range []struct{ groups, blocks, slots int }{{1, 11, 3}, {2, 11, 3}, {3, 2, 2}, {4, 1, 1}} {
		begins(t, s, c.groups)
		left(t, s, c.blocks, c.slots)
		answers(t, "Stop", s.Stop(), api.OK)
		left(t, s, 0, 0)
	}
	taken(s).Block(block(4, 7))
	taken(s).Slot(slotOf(4, 5))
	begins(t, s, 2)
	answers(t, "Truncate", f.Truncate(fd, 300), api.OK)
	left(t, s, 4, 3)
	answers(t, "Unlink", f.Unlink("/l"), api.OK)
	left(t, s, 3, 2)
	answers(t, "Unlink", f.Unlink("/f"), api.OK)
	left(t, s, 3, 2)
	answers(t, "Close", f.Close(fd), api.OK)
	left(t, s, 1, 1)
}

// first answers the first data block that is not taken, in the groups that stay, and the first slot behind the slot 0.
func first(s *shrink.Shrink) (int, int) {
	b, slot := 0, 0
	for k := s.Target() - 1; k >= 0; k-- {
		h, _ := volume(s).Head(k)
		for n := perSlots - 1; n >= 0; n-- {
			if h.Slots[n/8]&(1<<(n%8)) == 0 {
				slot = slotOf(k, n)
			}
		}
		for n := perBlocks - 1; n >= 0; n-- {
			if !taken(s).Taken(block(k, n)) {
				b = block(k, n)
			}
		}
	}
	return b, slot
}

// P24.2: step by step the least block is moved near the block 0, and then the least slot near the slot 0; behind these the groups go.
func TestOrder(t *testing.T) {
	d, f, s := fresh(t, 4)
	for i, path := range []string{"/f", "/g", "/h", "/i"} {
		opened(t, f, path, strings.Repeat(path[1:], 7*api.Block))
		sent(t, s, path, 3-i%3, i != 1)
	}
	answers(t, "Truncate", f.Truncate(3, 600), api.OK)
	syncs(t, s)
	was := tells(t, s)
	begins(t, s, 2)
	blocks, slots := s.Left()
	if blocks != 19 || slots != 2 {
		t.Fatal("Left", blocks, slots)
	}
	for n := range blocks {
		least := append(mover(s).Blocks(2), mover(s).Blocks(3)...)[0]
		to, _ := first(s)
		owner, _ := mover(s).Owner(least)
		steps(t, s, false, api.OK)
		if now, e := mover(s).Owner(to); now != owner || e != api.OK {
			t.Errorf("the block %d is not moved to %d: %d, %d", least, to, now, e)
		}
		if _, e := mover(s).Owner(least); e != api.ErrNone {
			t.Errorf("the block %d is owned still: %d", least, e)
		}
		left(t, s, blocks-n-1, slots)
	}
	for n := range slots {
		least := append(mover(s).Slots(2), mover(s).Slots(3)...)[0]
		_, to := first(s)
		i, _ := files(s).Get(least)
		steps(t, s, false, api.OK)
		if now, e := files(s).Get(to); now != i || e != api.OK {
			t.Errorf("the slot %d is not moved to %d: %v, %d", least, to, now, e)
		}
		left(t, s, 0, slots-n-1)
	}
	frozen(t, s, 2, 3)
	is(t, d, s, 4, 1)
	steps(t, s, true, api.OK)
	is(t, d, s, 2, 2)
	if now := tells(t, s); now != was {
		t.Errorf("it tells\n%s\nnot\n%s", now, was)
	}
}

// P24.2: near the block 0 and the slot 0, though somebody lets the group that goes be frozen no more.
func TestNear(t *testing.T) {
	d, f, s := fresh(t, 3)
	opened(t, f, "/f", "hello")
	opened(t, f, "/g", "other")
	sent(t, s, "/f", 2, true)
	syncs(t, s)
	begins(t, s, 1)
	answers(t, "Freeze", taken(s).Freeze(2, false), api.OK)
	steps(t, s, false, api.OK)
	if own, e := files(s).Owned(slot(t, s, "/f")); !slices.Equal(own, []int{block(0, 1)}) || e != api.OK {
		t.Errorf("its blocks are %v, %d", own, e)
	}
	steps(t, s, false, api.OK)
	if at := slot(t, s, "/f"); at != 2 {
		t.Errorf("its slot is %d", at)
	}
	ends(t, s, 1, api.OK)
	is(t, d, s, 1, 2)
}

// P24.2: with the last step all is safe, nothing waits, nothing is frozen, and the next superblock stands on the disk.
func TestEnd(t *testing.T) {
	d, f, s := fresh(t, 3)
	opened(t, f, "/f", strings.Repeat("f", 2000))
	sent(t, s, "/f", 2, false)
	begins(t, s, 2)
	for range 9 {
		steps(t, s, false, api.OK)
	}
	left(t, s, 0, 0)
	answers(t, "Mkdir", f.Mkdir("/a"), api.OK)
	answers(t, "Create", f.Create("/a/x"), api.OK)
	answers(t, "Write", f.Write(0, 0, []byte("other")), api.OK)
	if mover(s).Waits(2) == 0 || mover(s).Sync().Quiet() {
		t.Fatal("nothing waits ahead of it")
	}
	was := tells(t, s)
	steps(t, s, true, api.OK)
	if !mover(s).Sync().Quiet() || len(d.Open()) != 0 {
		t.Error("something is not safe")
	}
	frozen(t, s)
	if now := tells(t, s); now != was {
		t.Errorf("it tells\n%s\nnot\n%s", now, was)
	}
	got, _ := d.Safe(0)
	if x, e := super.Get(got); x != (super.Super{Gen: 2, Geo: shape(2)}) || e != api.OK {
		t.Errorf("the superblock is %v, %d", x, e)
	}
	free(t, s, 2*perBlocks-11, 2*perSlots-5)
	d.Crash(nil)
	answers(t, "Close", f.Close(0), api.OK)
	if now := tells(t, mounted(t, d)); now != tells(t, s) {
		t.Errorf("behind a crash it tells\n%s\nnot\n%s", now, was)
	}
}

// Nothing is to be moved: it is over with the first step.
func TestNothingLeft(t *testing.T) {
	for groups := 1; groups < 16; groups++ {
		d, f, s := fresh(t, 16)
		fd := opened(t, f, "/f", "hello")
		begins(t, s, groups)
		left(t, s, 0, 0)
		ends(t, s, 1, api.OK)
		is(t, d, s, groups, 2)
		free(t, s, groups*perBlocks-2, groups*perSlots-3)
		if b, e := f.Read(fd, 0, 9); string(b) != "hello" || e != api.OK {
			t.Errorf("Read: %q, %d", b, e)
		}
	}
}

// P24.1: Stop behind any number of steps: nothing is frozen, the shape is the old one, and it may begin anew.
func TestStop(t *testing.T) {
	for done := range 11 {
		d, f, s := fresh(t, 3)
		opened(t, f, "/f", strings.Repeat("f", 2000))
		sent(t, s, "/f", 2, true)
		syncs(t, s)
		was := tells(t, s)
		blocks, slots := f.Free()
		begins(t, s, 1)
		for range done {
			steps(t, s, false, api.OK)
		}
		answers(t, "Stop", s.Stop(), api.OK)
		target(t, s, 0)
		left(t, s, 0, 0)
		frozen(t, s)
		is(t, d, s, 3, 1)
		same(t, d, s, "Stop", func() { answers(t, "Stop", s.Stop(), api.ErrState) })
		syncs(t, s)
		free(t, s, blocks, slots)
		if now := tells(t, s); now != was {
			t.Errorf("stopped behind %d steps it tells\n%s\nnot\n%s", done, now, was)
		}
		begins(t, s, 2)
		left(t, s, max(9-done, 0), min(10-done, 1))
		ends(t, s, 11-done, api.OK)
		is(t, d, s, 2, 2)
	}
}

// P24.1: a group that was frozen ahead of it is so no more behind it; one that stays is as it was.
func TestFrozenAhead(t *testing.T) {
	for _, stop := range []bool{false, true} {
		_, _, s := fresh(t, 4)
		taken(s).Freeze(1, true)
		taken(s).Freeze(3, true)
		begins(t, s, 2)
		frozen(t, s, 1, 2, 3)
		if stop {
			answers(t, "Stop", s.Stop(), api.OK)
		} else {
			steps(t, s, true, api.OK)
		}
		frozen(t, s, 1)
	}
}

// full takes blocks and slots of the first group, until so many are free there.
func full(t *testing.T, s *shrink.Shrink, blocks, slots int) {
	t.Helper()
	for k := 1; k < volume(s).Geo().Groups; k++ {
		taken(s).Freeze(k, true)
	}
	for {
		b, n := taken(s).Free()
		if b > blocks {
			taken(s).Block(0)
		}
		if n > slots {
			taken(s).Slot(0)
		}
		if b <= blocks && n <= slots {
			break
		}
	}
	for k := 1; k < volume(s).Geo().Groups; k++ {
		taken(s).Freeze(k, false)
	}
}

// P24.4 (P5): as many blocks and slots free as there are to be moved: it is over behind as many steps and one; with one fewer it ends with ErrSpace, with the old shape, nothing frozen, and all that is told as it was.
func TestRoom(t *testing.T) {
	for _, c := range []struct {
		name          string
		blocks, slots int // how many more or fewer are free than there must be
		steps         int
		want          api.Errno
	}{
		{"just enough", 0, 0, 13, api.OK},
		{"one more", 1, 1, 13, api.OK},
		{"one block fewer", -1, 0, 10, api.ErrSpace},
		{"no block", -10, 0, 1, api.ErrSpace},
		{"one slot fewer", 0, -1, 12, api.ErrSpace},
		{"no slot", 0, -2, 11, api.ErrSpace},
		{"one of both fewer", -1, -1, 10, api.ErrSpace},
	} {
		d, f, s := fresh(t, 3)
		opened(t, f, "/f", strings.Repeat("f", 2000))
		answers(t, "Create", f.Create("/g"), api.OK)
		sent(t, s, "/", 1, false)
		sent(t, s, "/f", 2, true)
		sent(t, s, "/g", 1, true)
		syncs(t, s)
		full(t, s, 10+c.blocks, 2+c.slots)
		was := tells(t, s)
		blocks, slots := f.Free()
		begins(t, s, 1)
		left(t, s, 10, 2)
		free(t, s, 10+c.blocks, 2+c.slots)
		ends(t, s, c.steps, c.want)
		if now := tells(t, s); now != was {
			t.Errorf("%s: it tells\n%s\nnot\n%s", c.name, now, was)
		}
		if c.want == api.OK {
			is(t, d, s, 1, 2)
			free(t, s, c.blocks, c.slots)
		} else {
			is(t, d, s, 3, 1)
			syncs(t, s)
			free(t, s, blocks, slots)
		}
		if t.Failed() {
			t.Fatal(c.name)
		}
	}
}

// P24.4: what ended with ErrSpace goes on where it was, if there is room.
func TestRoomLater(t *testing.T) {
	d, f, s := fresh(t, 2)
	fd := opened(t, f, "/f", strings.Repeat("f", 2000))
	other := opened(t, f, "/other", strings.Repeat("o", 2000))
	sent(t, s, "/f", 1, true)
	syncs(t, s)
	full(t, s, 6, 0)
	begins(t, s, 1)
	ends(t, s, 7, api.ErrSpace)
	answers(t, "Truncate", f.Truncate(other, 0), api.OK)
	begins(t, s, 1)
	ends(t, s, 1, api.ErrSpace) // what is given waits
	syncs(t, s)
	begins(t, s, 1)
	left(t, s, 3, 1)
	ends(t, s, 4, api.ErrSpace) // no slot
	answers(t, "Close", f.Close(other), api.OK)
	answers(t, "Unlink", f.Unlink("/other"), api.OK)
	syncs(t, s)
	begins(t, s, 1)
	ends(t, s, 2, api.OK)
	is(t, d, s, 1, 2)
	if b, e := f.Read(fd, 0, api.MaxIO); string(b) != strings.Repeat("f", 2000) || e != api.OK {
		t.Errorf("Read: %d bytes, %d", len(b), e)
	}
}

// P24.2: an error of Switch ends it, too: the greatest Gen has no next one.
func TestGreatestGen(t *testing.T) {
	d := formatted(t, geo.Size(shape(3)), shape(3))
	last, e := super.Put(super.Super{Gen: 1 << 62, Geo: shape(3)})
	answers(t, "Put", e, api.OK)
	d.Write(0, last)
	d.Flush()
	s := mounted(t, d)
	opened(t, system(s), "/f", "hello")
	sent(t, s, "/f", 2, true)
	begins(t, s, 2)
	ends(t, s, 3, api.ErrArg)
	is(t, d, s, 3, 1<<62)
	begins(t, s, 1)
	ends(t, s, 1, api.ErrArg)
	free(t, s, 3*perBlocks-2, 3*perSlots-3)
}

// enlarged makes the volume larger.
func enlarged(t *testing.T, s *shrink.Shrink, to int) {
	t.Helper()
	g := grow.New(s.Slots())
	answers(t, "Begin", g.Begin(to), api.OK)
	for range 2 {
		if _, e := g.Step(); e != api.OK {
			t.Errorf("Step: %d", e)
		}
	}
}

// P3, P1: a volume is made larger, and then smaller again, again and again, with things in the groups that come and go.
func TestLargerAndSmaller(t *testing.T) {
	d := formatted(t, geo.Size(shape(5)), shape(1))
	s := mounted(t, d)
	f := system(s)
	fd := opened(t, f, "/f", strings.Repeat("f", 2000))
	gen := int64(1)
	for round := range 6 {
		to := 2 + round%4
		enlarged(t, s, to)
		frozen(t, s)
		free(t, s, to*perBlocks-10, to*perSlots-3)
		answers(t, "Mkdir", f.Mkdir("/a"), api.OK)
		other := opened(t, f, "/a/g", strings.Repeat("g", 2500))
		for _, path := range []string{"/f", "/a", "/a/g"} {
			sent(t, s, path, to-1, true)
		}
		was := tells(t, s)
		begins(t, s, 1)
		blocks, slots := s.Left()
		if slots != 3 || blocks != perBlocks {
			t.Errorf("Left: %d, %d", blocks, slots)
		}
		ends(t, s, perBlocks, api.ErrSpace) // one is the root's
		if now := tells(t, s); now != was {
			t.Errorf("it tells\n%s\nnot\n%s", now, was)
		}
		answers(t, "Unlink", f.Unlink("/a/g"), api.OK)
		answers(t, "Close", f.Close(other), api.OK)
		syncs(t, s)
		answers(t, "Rmdir", f.Rmdir("/a"), api.OK)
		syncs(t, s)
		was = tells(t, s)
		begins(t, s, 1)
		blocks, slots = s.Left()
		ends(t, s, blocks+slots+1, api.OK)
		gen += 2
		is(t, d, s, 1, gen)
		if now := tells(t, s); now != was {
			t.Errorf("it tells\n%s\nnot\n%s", now, was)
		}
		free(t, s, perBlocks-10, perSlots-3)
		if t.Failed() {
			t.Fatal("round", round)
		}
	}
	if b, e := f.Read(fd, 0, api.MaxIO); string(b) != strings.Repeat("f", 2000) || e != api.OK {
		t.Errorf("Read: %d bytes, %d", len(b), e)
	}
}

// Of two that are made of one volume each has a way of its own: what the other one moved need not be moved.
func TestTwo(t *testing.T) {
	d, f, s := fresh(t, 4)
	fd := opened(t, f, "/f", strings.Repeat("f", 2000))
	sent(t, s, "/f", 3, true)
	other := shrink.New(s.Slots())
	begins(t, s, 3)
	target(t, other, 0)
	answers(t, "Stop", other.Stop(), api.ErrState)
	begins(t, other, 2)
	left(t, s, 9, 1)
	left(t, other, 9, 1)
	steps(t, s, false, api.OK)
	left(t, other, 8, 1)
	ends(t, other, 10, api.OK)
	is(t, d, s, 2, 2)
	target(t, s, 3)
	left(t, s, 0, 0)
	answers(t, "Stop", s.Stop(), api.OK)
	if b, e := f.Read(fd, 0, api.MaxIO); string(b) != strings.Repeat("f", 2000) || e != api.OK {
		t.Errorf("Read: %d bytes, %d", len(b), e)
	}
	free(t, s, 2*perBlocks-10, 2*perSlots-3)
}

// Other shapes: the least groups, and the greatest volume.
func TestShapes(t *testing.T) {
	for _, g := range []api.Geo{{Group: 16, Inodes: 4, Groups: 2}, {Group: 16, Inodes: 44, Groups: 3}, {Group: 128, Inodes: 64, Groups: 16}} {
		d := formatted(t, geo.Size(g), g)
		s := mounted(t, d)
		f := system(s)
		fd := opened(t, f, "/f", "hello")
		own, _ := files(s).Owned(2)
		last := geo.Size(g) - 1
		if to, e := mover(s).Block(own[0], last-1); to != last || e != api.OK {
			t.Fatal("Block", to, e)
		}
		if to, e := s.Slots().Move(2, geo.Slots(g)-2); to != geo.Slots(g)-1 || e != api.OK {
			t.Fatal("Move", to, e)
		}
		begins(t, s, 1)
		left(t, s, 1, 1)
		ends(t, s, 3, api.OK)
		if v, e := vol.Mount(d); e != api.OK || v.Geo().Groups != 1 || v.Gen() != 2 {
			t.Errorf("Mount: %v, %d", v.Geo(), e)
		}
		if b, e := f.Read(fd, 0, 9); string(b) != "hello" || e != api.OK {
			t.Errorf("Read: %q, %d", b, e)
		}
	}
}
