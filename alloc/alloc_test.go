package alloc_test

import (
	"math"
	"slices"
	"testing"

	"levee/alloc"
	"levee/api"
	"levee/disk"
	"levee/geo"
	"levee/group"
	"levee/push"
	"levee/vol"
)

// example is the chapter's shape.
var example = api.Geo{Group: 16, Inodes: 8, Groups: 2}

// far are numbers that no block, slot or group has.
var far = []int{math.MinInt, math.MinInt + 1, -4096, -16, -2, -1, 4096, 65536, math.MaxInt - 1, math.MaxInt}

// groups is the example's shape with another number of groups.
func groups(n int) api.Geo {
	return api.Geo{Group: example.Group, Inodes: example.Inodes, Groups: n}
}

// fresh is all of a new volume.
func fresh(t *testing.T, g api.Geo) (*alloc.Alloc, *vol.Vol) {
	t.Helper()
	d, _ := disk.New(geo.Size(g))
	return on(t, d, g)
}

// on is all of a new volume on a disk.
func on(t *testing.T, d *disk.Disk, g api.Geo) (*alloc.Alloc, *vol.Vol) {
	t.Helper()
	if e := vol.Format(d, g); e != api.OK {
		t.Fatal("Format", e)
	}
	v, e := vol.Mount(d)
	if e != api.OK {
		t.Fatal("Mount", e)
	}
	a := alloc.New(v)
	if a == nil || a.Vol() != v {
		t.Fatal("New", a)
	}
	return a, v
}

func answers(t *testing.T, what string, got, want api.Errno) {
	t.Helper()
	if got != want {
		t.Errorf("%s: %d, not %d", what, got, want)
	}
}

// block takes one that must be the wanted one.
func block(t *testing.T, a *alloc.Alloc, near, want int) int64 {
	t.Helper()
	b, id, e := a.Block(near)
	if b != want || id < 1 || e != api.OK {
		t.Errorf("Block(%d): %d, %d, %d, not %d", near, b, id, e, want)
	}
	return id
}

// slot takes one that must be the wanted one.
func slot(t *testing.T, a *alloc.Alloc, near, want int) int64 {
	t.Helper()
	s, id, e := a.Slot(near)
	if s != want || id < 1 || e != api.OK {
		t.Errorf("Slot(%d): %d, %d, %d, not %d", near, s, id, e, want)
	}
	return id
}

func free(t *testing.T, a *alloc.Alloc, blocks, slots int) {
	t.Helper()
	if x, y := a.Free(); x != blocks || y != slots {
		t.Errorf("Free: %d, %d, not %d, %d", x, y, blocks, slots)
	}
}

func used(t *testing.T, a *alloc.Alloc, k, blocks, slots int) {
	t.Helper()
	if x, y, e := a.Used(k); x != blocks || y != slots || e != api.OK {
		t.Errorf("Used(%d): %d, %d, %d, not %d, %d", k, x, y, e, blocks, slots)
	}
}

func settled(t *testing.T, a *alloc.Alloc, want int) {
	t.Helper()
	if n := a.Settle(); n != want {
		t.Errorf("Settle: %d, not %d", n, want)
	}
}

func frozen(t *testing.T, a *alloc.Alloc, k int, on bool) {
	t.Helper()
	answers(t, "Freeze", a.Freeze(k, on), api.OK)
	if a.Frozen(k) != on {
		t.Errorf("Frozen(%d): %v", k, !on)
	}
}

// fill takes all data blocks of a group.
func fill(t *testing.T, a *alloc.Alloc, g api.Geo, k int) {
	t.Helper()
	first, behind := geo.Range(g, k)
	for b := first; b < behind; b++ {
		block(t, a, behind-1, b)
	}
}

// none holds all calls of one that has no volume against the chapter.
func none(t *testing.T, a *alloc.Alloc) {
	t.Helper()
	if a.Vol() != nil || a.Settle() != 0 {
		t.Error("of nil", a.Vol())
	}
	free(t, a, 0, 0)
	for _, n := range append(far, 0, 1, 5, 9) {
		b, id, e := a.Block(n)
		s, id2, e2 := a.Slot(n)
		if b != 0 || id != 0 || e != api.ErrNil || s != 0 || id2 != 0 || e2 != api.ErrNil {
			t.Error("Block, Slot of nil", b, id, e, s, id2, e2)
		}
		answers(t, "FreeBlock", a.FreeBlock(n, 0), api.ErrNil)
		answers(t, "FreeSlot", a.FreeSlot(n, 0), api.ErrNil)
		answers(t, "Freeze", a.Freeze(n, true), api.ErrNil)
		if x, y, e := a.Used(n); x != 0 || y != 0 || e != api.ErrNil {
			t.Error("Used of nil", x, y, e)
		}
		if a.Frozen(n) || a.Taken(n) {
			t.Error("Frozen, Taken of nil")
		}
	}
}

// P14.1 to P14.3: of nil, and of no volume.
func TestNoVolume(t *testing.T) {
	if alloc.New(nil) != nil || alloc.New(new(vol.Vol)) != nil {
		t.Error("New of no volume")
	}
	none(t, nil)
	none(t, alloc.New(nil))
	none(t, new(alloc.Alloc))
}

// The chapter's example.
func TestExample(t *testing.T) {
	a, _ := fresh(t, example)
	block(t, a, 0, 5)
	block(t, a, 5, 6)
	slot(t, a, 1, 2)
}

// P14.1: the place behind near first, and round in its group, then the next group from its first one on, and round.
func TestBlock(t *testing.T) {
	a, _ := fresh(t, groups(3))
	for _, c := range [][2]int{{7, 8}, {7, 9}, {17, 5}, {16, 17}, {17, 6}, {33, 21}, {34, 7}, {21, 22}, {40, 41}, {49, 37}} {
		block(t, a, c[0], c[1])
	}
	free(t, a, 39-10, 22)
	used(t, a, 0, 6, 0)
	used(t, a, 1, 2, 0)
	used(t, a, 2, 2, 0)
}

// P14.1: near that is no data block is group 0 from its first one on, whatever it is else.
func TestNearNothing(t *testing.T) {
	want := 5
	a, _ := fresh(t, groups(3))
	for _, near := range append(far[:7:7], 0, 1, 2, 4) {
		block(t, a, near, want)
		want++
	}
	a, _ = fresh(t, groups(3))
	want = 5
	for _, near := range append(far[7:], 3, 18, 19, 20, 34, 50, 51) {
		if kind, _ := geo.Kind(groups(3), near); kind == geo.Data {
			t.Fatal("a data block", near)
		}
		block(t, a, near, want)
		want++
	}
	a, _ = fresh(t, example)
	for i, near := range append(far[:5:5], 16) {
		slot(t, a, near, 2+i)
	}
	a, _ = fresh(t, example)
	for i, near := range append(far[5:], 17) {
		slot(t, a, near, 2+i)
	}
}

// P14.1: the group of near is full: the groups behind it, from their first ones on, and behind the last the first.
func TestNearsGroupFull(t *testing.T) {
	a, _ := fresh(t, groups(3))
	fill(t, a, groups(3), 1)
	block(t, a, 30, 37)
	block(t, a, 21, 38)
	fill3 := []int{39, 40, 41, 42, 43, 44, 45, 46, 47, 48, 49}
	for _, want := range fill3 {
		block(t, a, 33, want)
	}
	block(t, a, 33, 5)
	block(t, a, 49, 6)
	for want := 7; want < 18; want++ {
		block(t, a, 40, want)
	}
	free(t, a, 0, 22)
	for _, near := range append(far, 0, 5, 17, 33, 49) {
		if b, id, e := a.Block(near); b != 0 || id != 0 || e != api.ErrSpace {
			t.Errorf("Block(%d) of a full volume: %d, %d, %d", near, b, id, e)
		}
	}
	slot(t, a, 0, 2)
}

// P14.1: of frozen groups nothing is taken, of near's neither: then those behind it are taken from their first ones on.
func TestFrozenBlock(t *testing.T) {
	a, _ := fresh(t, groups(3))
	frozen(t, a, 0, true)
	block(t, a, 8, 21)
	block(t, a, 0, 22)
	block(t, a, 30, 31)
	frozen(t, a, 1, true)
	block(t, a, 31, 37)
	block(t, a, 8, 38)
	slot(t, a, 9, 16)
	slot(t, a, 2, 17)
	frozen(t, a, 2, true)
	if b, id, e := a.Block(8); b != 0 || id != 0 || e != api.ErrSpace {
		t.Error("Block of frozen groups", b, id, e)
	}
	if s, id, e := a.Slot(8); s != 0 || id != 0 || e != api.ErrSpace {
		t.Error("Slot of frozen groups", s, id, e)
	}
	free(t, a, 0, 0)
	frozen(t, a, 0, false)
	block(t, a, 31, 5)
	slot(t, a, 23, 2)
	free(t, a, 12, 5)
	frozen(t, a, 1, false)
	free(t, a, 22, 13)
	used(t, a, 2, 2, 2)
}

// P14.1: a group that is not frozen any more goes on where it was.
func TestFrozenAndFull(t *testing.T) {
	a, _ := fresh(t, groups(3))
	fill(t, a, groups(3), 2)
	frozen(t, a, 0, true)
	block(t, a, 45, 21)
	frozen(t, a, 1, true)
	if _, _, e := a.Block(45); e != api.ErrSpace {
		t.Error("Block", e)
	}
	frozen(t, a, 0, false)
	block(t, a, 45, 5)
	frozen(t, a, 1, false)
	block(t, a, 21, 22)
}

// P14.1: slots likewise; the slots 0 and 1 are never taken.
func TestSlot(t *testing.T) {
	a, _ := fresh(t, groups(3))
	for _, c := range [][2]int{{7, 2}, {9, 10}, {15, 8}, {14, 15}, {23, 16}, {0, 3}, {1, 4}, {3, 5}, {6, 7}, {5, 6}, {7, 9}, {2, 11}, {23, 17}, {24, 12}, {15, 13}, {13, 14}, {14, 18}} {
		slot(t, a, c[0], c[1])
	}
	free(t, a, 39, 5)
	for want := 19; want < 24; want++ {
		slot(t, a, 1, want)
	}
	for _, near := range append(far, 0, 1, 2, 23) {
		if s, id, e := a.Slot(near); s != 0 || id != 0 || e != api.ErrSpace {
			t.Errorf("Slot(%d) of a full volume: %d, %d, %d", near, s, id, e)
		}
	}
	used(t, a, 0, 0, 6)
	used(t, a, 1, 0, 8)
	block(t, a, 0, 5)
}

// P14.1: what is taken is a change of its header, and of no other block.
func TestChanges(t *testing.T) {
	a, v := fresh(t, example)
	for i, c := range []struct {
		take       func(int) (int, int64, api.Errno)
		near, head int
	}{{a.Block, 0, 2}, {a.Block, 22, 18}, {a.Slot, 0, 2}, {a.Slot, 9, 18}} {
		n, id, e := c.take(c.near)
		if id != int64(i+1) || e != api.OK {
			t.Errorf("the change of %d: %d, %d", n, id, e)
		}
		if b, _ := v.Store().Block(id); b != c.head {
			t.Errorf("the change of %d is in block %d, not %d", n, b, c.head)
		}
	}
	h, _ := v.Head(1)
	if h.Blocks != [16]byte{0x27} || h.Slots != [8]byte{4} {
		t.Error("Head", h)
	}
	if v.Store().Open() != 4 || !slices.Equal(v.Store().Dirty(), []int{2, 18}) {
		t.Error("changes", v.Store().Open(), v.Store().Dirty())
	}
	_, _, e := a.Used(0)
	answers(t, "Used", e, api.OK)
	a.Free()
	a.Taken(5)
	if v.Store().Open() != 4 {
		t.Error("what is asked made a change")
	}
}

// P14.2: what is given is free when its change is safe and it is settled, not ahead of that.
func TestFreeBlock(t *testing.T) {
	a, v := fresh(t, example)
	block(t, a, 7, 8)
	id, _ := v.SetData(8, 0, []byte("gone"))
	answers(t, "FreeBlock", a.FreeBlock(8, id), api.OK)
	answers(t, "FreeBlock of one that waits", a.FreeBlock(8, id), api.ErrState)
	answers(t, "FreeBlock of one that waits", a.FreeBlock(8, 0), api.ErrState)
	if !slices.Equal(v.Work().List(), []push.Act{{Kind: push.FreeBlock, N: 8}}) {
		t.Error("what waits", v.Work().List())
	}
	settled(t, a, 0)
	block(t, a, 7, 9)
	v.Store().Write(8)
	settled(t, a, 0)
	v.Store().Flush()
	if !a.Taken(8) {
		t.Error("free ahead of Settle")
	}
	free(t, a, 24, 14)
	settled(t, a, 1)
	settled(t, a, 0)
	if a.Taken(8) || !a.Taken(9) {
		t.Error("Taken behind Settle")
	}
	free(t, a, 25, 14)
	answers(t, "FreeBlock of a free one", a.FreeBlock(8, 0), api.ErrState)
	block(t, a, 7, 8)
	answers(t, "FreeBlock", a.FreeBlock(8, 0), api.OK)
	settled(t, a, 1)
}

// P14.2: a slot likewise, beside a block of the same number.
func TestFreeSlot(t *testing.T) {
	a, v := fresh(t, example)
	slot(t, a, 7, 2)
	slot(t, a, 7, 3)
	for want := 5; want <= 8; want++ {
		block(t, a, 0, want)
	}
	slot(t, a, 4, 5)
	id, _ := v.SetInode(2, api.Inode{})
	answers(t, "FreeSlot", a.FreeSlot(2, id), api.OK)
	answers(t, "FreeSlot of one that waits", a.FreeSlot(2, 0), api.ErrState)
	answers(t, "FreeSlot", a.FreeSlot(5, id), api.OK)
	answers(t, "FreeBlock of the same number", a.FreeBlock(5, id), api.OK)
	answers(t, "FreeSlot of a free one", a.FreeSlot(4, id), api.ErrState)
	settled(t, a, 0)
	push.One(v.Store(), id)
	settled(t, a, 3)
	used(t, a, 0, 3, 1)
	slot(t, a, 1, 2)
	slot(t, a, 3, 4)
	slot(t, a, 4, 5)
}

// P14.2: blocks and slots that are not there, and the slots 0 and 1, ahead of all else; nothing waits by that.
func TestGiveRefused(t *testing.T) {
	a, v := fresh(t, example)
	for b := range 40 {
		want := api.ErrState
		if kind, _ := geo.Kind(example, b); kind != geo.Data {
			want = api.ErrRange
		}
		answers(t, "FreeBlock", a.FreeBlock(b, 0), want)
	}
	for s := range 20 {
		want := api.ErrState
		if s < 2 || s >= 16 {
			want = api.ErrRange
		}
		answers(t, "FreeSlot", a.FreeSlot(s, 0), want)
	}
	for _, n := range far {
		for _, id := range []int64{math.MinInt64, -1, 0, 1, math.MaxInt64} {
			answers(t, "FreeBlock", a.FreeBlock(n, id), api.ErrRange)
			answers(t, "FreeSlot", a.FreeSlot(n, id), api.ErrRange)
		}
	}
	settled(t, a, 0)
	if v.Work().Len() != 0 || v.Store().Open() != 0 {
		t.Error("a refused call left something", v.Work().Len(), v.Store().Open())
	}
	free(t, a, 26, 14)
}

// P14.2: behind numbers that are no change's: those below 1 are no reason to wait, the others come to be one's.
func TestBehindAnyNumber(t *testing.T) {
	a, v := fresh(t, example)
	for want := 5; want < 12; want++ {
		block(t, a, 0, want)
	}
	for i, id := range []int64{math.MinInt64, -1, 0, 7, 8, 9, math.MaxInt64} {
		answers(t, "FreeBlock", a.FreeBlock(5+i, id), api.OK)
	}
	settled(t, a, 3) // by the changes 8, 9 and 10
	push.All(v.Store())
	settled(t, a, 3)
	push.All(v.Store())
	settled(t, a, 0)
	if !a.Taken(11) || v.Work().Len() != 1 {
		t.Error("free behind a change that is not there", v.Work().List())
	}
}

// P14.2: the work's ErrFull, behind ErrRange and ErrState; nothing waits by that.
func TestWorkFull(t *testing.T) {
	a, v := fresh(t, example)
	block(t, a, 0, 5)
	block(t, a, 0, 6)
	slot(t, a, 1, 2)
	answers(t, "FreeBlock", a.FreeBlock(6, math.MaxInt64), api.OK)
	for n := range api.MaxBlocks - 1 {
		answers(t, "Later", v.Work().Later(math.MaxInt64, push.Act{Kind: push.Other, N: n}), api.OK)
	}
	answers(t, "FreeBlock of a full work", a.FreeBlock(5, 0), api.ErrFull)
	answers(t, "FreeSlot of a full work", a.FreeSlot(2, 0), api.ErrFull)
	answers(t, "FreeBlock of one that waits", a.FreeBlock(6, 0), api.ErrState)
	answers(t, "FreeBlock of a free one", a.FreeBlock(7, 0), api.ErrState)
	answers(t, "FreeSlot of the root", a.FreeSlot(1, 0), api.ErrRange)
	settled(t, a, 0)
	if !a.Taken(5) || v.Work().Len() != api.MaxBlocks {
		t.Error("a refused call gave a block", v.Work().Len())
	}
}

// P14.2: acts of another kind are ripe too, and free nothing; so do acts that were put beside these calls for what is free, or is not there.
func TestSettleOthers(t *testing.T) {
	a, v := fresh(t, example)
	block(t, a, 0, 5)
	for _, act := range []push.Act{{Kind: push.Other, N: 5}, {Kind: push.FreeBlock, N: 6}, {Kind: push.FreeBlock, N: 3}, {Kind: push.FreeBlock, N: -1}, {Kind: push.FreeSlot, N: 1}, {Kind: push.FreeSlot, N: math.MaxInt}} {
		answers(t, "Later", v.Work().Later(0, act), api.OK)
	}
	open := v.Store().Open()
	settled(t, a, 0)
	if v.Work().Len() != 0 || v.Store().Open() != open || !a.Taken(5) {
		t.Error("Settle", v.Work().List(), v.Store().Open())
	}
}

// P14.2: each by a change of its header, in their order.
func TestSettleInOrder(t *testing.T) {
	a, v := fresh(t, example)
	block(t, a, 0, 5)
	block(t, a, 21, 22)
	slot(t, a, 1, 2)
	push.All(v.Store())
	answers(t, "FreeBlock", a.FreeBlock(22, 0), api.OK)
	answers(t, "FreeSlot", a.FreeSlot(2, 0), api.OK)
	answers(t, "FreeBlock", a.FreeBlock(5, 0), api.OK)
	settled(t, a, 3)
	for i, want := range []int{18, 2, 2} {
		if b, e := v.Store().Block(int64(4 + i)); b != want || e != api.OK {
			t.Errorf("change %d is in block %d, %d, not %d", 4+i, b, e, want)
		}
	}
	if v.Store().Open() != 3 {
		t.Error("changes", v.Store().Open())
	}
	for k := range 2 {
		h, _ := v.Head(k)
		if want, _ := group.Fresh(example, k); h != want {
			t.Errorf("Head(%d): %v", k, h)
		}
	}
}

// P14.3: frozen groups count for nothing in Free, and for all in Used; what is settled in them is free when they are not frozen any more.
func TestFrozenFree(t *testing.T) {
	a, _ := fresh(t, example)
	free(t, a, 26, 14)
	block(t, a, 0, 5)
	block(t, a, 0, 6)
	slot(t, a, 1, 2)
	frozen(t, a, 0, true)
	free(t, a, 13, 8)
	used(t, a, 0, 2, 1)
	if !a.Taken(5) || a.Taken(7) {
		t.Error("Taken of a frozen group")
	}
	answers(t, "FreeBlock of a frozen group", a.FreeBlock(5, 0), api.OK)
	answers(t, "FreeSlot of a frozen group", a.FreeSlot(2, 0), api.OK)
	settled(t, a, 2)
	free(t, a, 13, 8)
	used(t, a, 0, 1, 0)
	frozen(t, a, 0, true)
	frozen(t, a, 0, false)
	free(t, a, 25, 14)
	frozen(t, a, 0, false)
	free(t, a, 25, 14)
}

// P14.3: groups and blocks that are not there.
func TestGroupsNotThere(t *testing.T) {
	a, _ := fresh(t, example)
	for _, k := range append(far, 2, 3, 15, 16) {
		answers(t, "Freeze", a.Freeze(k, true), api.ErrRange)
		answers(t, "Freeze", a.Freeze(k, false), api.ErrRange)
		if a.Frozen(k) {
			t.Errorf("Frozen(%d)", k)
		}
		if x, y, e := a.Used(k); x != 0 || y != 0 || e != api.ErrRange {
			t.Errorf("Used(%d): %d, %d, %d", k, x, y, e)
		}
	}
	for _, b := range append(far, 0, 1, 2, 3, 4, 5, 17, 18, 19, 20, 33, 34) {
		if a.Taken(b) {
			t.Errorf("Taken(%d) of a fresh volume", b)
		}
	}
	free(t, a, 26, 14)
}

// All shapes: as many are taken as there are, each once, and then none; of the group 0 two slots fewer.
func TestShapes(t *testing.T) {
	for _, g := range []api.Geo{
		{Group: 16, Inodes: 4, Groups: 1},
		{Group: 16, Inodes: 44, Groups: 2},
		{Group: 17, Inodes: 12, Groups: 3},
		{Group: 128, Inodes: 64, Groups: 5},
	} {
		a, v := fresh(t, g)
		data := g.Group - 1 - g.Inodes/4
		free(t, a, g.Groups*data, g.Groups*g.Inodes-2)
		met := map[int]int{}
		for n := range g.Groups * data {
			b, _, e := a.Block(7 * n % geo.Size(g))
			if kind, _ := geo.Kind(g, b); kind != geo.Data || e != api.OK || !a.Taken(b) {
				t.Fatalf("%v: block %d, %d", g, b, e)
			}
			met[b]++
		}
		for n := range g.Groups*g.Inodes - 2 {
			s, _, e := a.Slot(5 * n % geo.Slots(g))
			if s < 2 || s >= geo.Slots(g) || e != api.OK {
				t.Fatalf("%v: slot %d, %d", g, s, e)
			}
			met[-s]++
		}
		if len(met) != g.Groups*data+g.Groups*g.Inodes-2 {
			t.Errorf("%v: some were taken twice", g)
		}
		free(t, a, 0, 0)
		for k := range g.Groups {
			slots := g.Inodes
			if k == 0 {
				slots -= 2
			}
			used(t, a, k, data, slots)
			h, _ := v.Head(k)
			if x, y := group.Free(g, h); x != 0 || y != 0 {
				t.Errorf("%v: the header %d has %d, %d free", g, k, x, y)
			}
		}
	}
}

// What is done by calls of the volume is seen: headers that are set, and other shapes (rule 1).
func TestBesideIt(t *testing.T) {
	d, _ := disk.New(60)
	a, v := on(t, d, example)
	h, _ := v.Head(0)
	h, _ = group.UseBlock(example, h, 3, true)
	v.SetHead(0, h)
	if !a.Taken(5) {
		t.Error("Taken(5)")
	}
	block(t, a, 0, 6)
	v.Prepare(groups(3))
	v.Switch(groups(3))
	free(t, a, 37, 22)
	block(t, a, 40, 41)
	frozen(t, a, 2, true)
	free(t, a, 24, 14)
	v.Switch(groups(1))
	free(t, a, 11, 6)
	if a.Frozen(2) || a.Taken(41) {
		t.Error("of a group that is gone")
	}
	answers(t, "Freeze", a.Freeze(1, true), api.ErrRange)
	answers(t, "FreeBlock", a.FreeBlock(41, 0), api.ErrRange)
	b := alloc.New(v)
	block(t, b, 40, 7)
	if !a.Taken(7) {
		t.Error("two of one volume see the same blocks")
	}
}

// A group whose header can not be read has nothing that is free or taken; the others are gone on with.
func TestBrokenHeader(t *testing.T) {
	d, _ := disk.New(60)
	a, v := on(t, d, example)
	v.Switch(groups(3)) // without Prepare: the third has no header
	free(t, a, 26, 14)
	block(t, a, 40, 5)
	slot(t, a, 20, 2)
	if x, y, e := a.Used(2); x != 0 || y != 0 || e != api.ErrForm {
		t.Error("Used", x, y, e)
	}
	answers(t, "FreeBlock", a.FreeBlock(40, 0), api.ErrState)
	answers(t, "FreeSlot", a.FreeSlot(20, 0), api.ErrState)
	if a.Taken(40) {
		t.Error("Taken")
	}
	v.Store().Patch(2, 0, []byte{0})
	v.Store().Patch(18, 0, []byte{0})
	free(t, a, 0, 0)
	if b, id, e := a.Block(5); b != 0 || id != 0 || e != api.ErrSpace {
		t.Error("Block", b, id, e)
	}
	answers(t, "FreeSlot", a.FreeSlot(0, 0), api.ErrRange)
	answers(t, "FreeSlot", a.FreeSlot(1, 0), api.ErrRange)
	answers(t, "FreeSlot", a.FreeSlot(2, 0), api.ErrState)
}

// A header that is another group's is not taken for this one's.
func TestOtherHeader(t *testing.T) {
	a, v := fresh(t, example)
	one, _ := v.Store().Read(18)
	v.Store().Patch(2, 0, one)
	open := v.Store().Open()
	if b, id, e := a.Block(0); b != 0 || id != 0 || e == api.OK || v.Store().Open() != open {
		t.Error("Block", b, id, e)
	}
}
