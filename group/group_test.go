package group_test

import (
	"bytes"
	"math"
	"testing"

	"levee/api"
	"levee/bits"
	"levee/geo"
	"levee/group"
)

// example is the chapter's.
var example = api.Geo{Group: 16, Inodes: 8, Groups: 2}

// far are numbers that no group, block or slot has.
var far = []int{math.MinInt, math.MinInt + 1, -4096, -65536, -9, -8, -2, -1, 128, 129, 65536, math.MaxInt32, math.MaxInt - 1, math.MaxInt}

// shapes are some that can be: the least, the greatest, and such as end within a byte of a map.
var shapes = []api.Geo{
	{Group: 16, Inodes: 4, Groups: 1},
	{Group: 16, Inodes: 44, Groups: 1},
	{Group: 16, Inodes: 8, Groups: 2},
	{Group: 17, Inodes: 12, Groups: 3},
	{Group: 23, Inodes: 20, Groups: 5},
	{Group: 24, Inodes: 64, Groups: 16},
	{Group: 127, Inodes: 60, Groups: 7},
	{Group: 128, Inodes: 64, Groups: 16},
	{Group: 128, Inodes: 4, Groups: 2},
}

// wrong are shapes that can not be.
var wrong = []api.Geo{
	{},
	{Group: 15, Inodes: 8, Groups: 2},
	{Group: 129, Inodes: 8, Groups: 2},
	{Group: 16, Inodes: 0, Groups: 2},
	{Group: 16, Inodes: 6, Groups: 2},
	{Group: 16, Inodes: 48, Groups: 2},
	{Group: 128, Inodes: 68, Groups: 2},
	{Group: 16, Inodes: 8, Groups: 0},
	{Group: 16, Inodes: 8, Groups: 17},
	{Group: -16, Inodes: -8, Groups: -2},
	{Group: math.MaxInt, Inodes: math.MaxInt, Groups: math.MaxInt},
	{Group: math.MinInt, Inodes: math.MinInt, Groups: math.MinInt},
	{Group: 16, Inodes: 8, Groups: math.MaxInt},
	{Group: math.MaxInt, Inodes: 8, Groups: 2},
	{Group: 16, Inodes: math.MinInt, Groups: 2},
}

// dice is a row of numbers that is the same each time.
type dice uint64

func (d *dice) next() uint64 {
	*d ^= *d << 13
	*d ^= *d >> 7
	*d ^= *d << 17
	return uint64(*d)
}

// lead is the first data block of a group, counted from its header.
func lead(g api.Geo) int {
	return 1 + g.Inodes/4
}

// set and has are the tests' own bits.
func set(b []byte, i int)      { b[i/8] |= 1 << (i % 8) }
func has(b []byte, i int) bool { return b[i/8]>>(i%8)&1 == 1 }

// least is a fresh header by the words of the chapter.
func least(g api.Geo, no int) group.Head {
	h := group.Head{No: no}
	for i := range lead(g) {
		set(h.Blocks[:], i)
	}
	if no == 0 {
		h.Slots[0] = 3
	}
	return h
}

// can is Right by the words of the chapter.
func can(g api.Geo, h group.Head) bool {
	if h.No < 0 || h.No >= g.Groups {
		return false
	}
	for i := range 128 {
		if i < lead(g) && !has(h.Blocks[:], i) || i >= g.Group && has(h.Blocks[:], i) {
			return false
		}
	}
	for i := range 64 {
		if h.No == 0 && i < 2 && !has(h.Slots[:], i) || i >= g.Inodes && has(h.Slots[:], i) {
			return false
		}
	}
	return true
}

// free counts what is not set.
func free(g api.Geo, h group.Head) (int, int) {
	blocks, slots := 0, 0
	for i := lead(g); i < g.Group; i++ {
		if !has(h.Blocks[:], i) {
			blocks++
		}
	}
	for i := range g.Inodes {
		if !has(h.Slots[:], i) {
			slots++
		}
	}
	return blocks, slots
}

// laid is a header's bytes by the words of the chapter.
func laid(g api.Geo, h group.Head) []byte {
	blocks, slots := free(g, h)
	b := []byte{0x4c, 0x47, 0x52, 0x50, byte(h.No), 0, byte(blocks), 0, byte(slots), 0, 0, 0, 0, 0, 0, 0}
	b = append(b, h.Blocks[:]...)
	b = append(b, h.Slots[:]...)
	return append(b, make([]byte, 256-len(b))...)
}

// heads calls f with headers that can be: fresh ones, full ones, and such as have some of all set.
func heads(f func(api.Geo, group.Head)) {
	d := dice(11)
	for _, g := range shapes {
		for no := range g.Groups {
			for round := range 6 {
				h := least(g, no)
				for i := lead(g); i < g.Group; i++ {
					if round == 1 || round > 1 && d.next()>>30%3 == 0 {
						set(h.Blocks[:], i)
					}
				}
				for i := range g.Inodes {
					if round == 1 || round > 1 && d.next()>>30%3 == 0 {
						set(h.Slots[:], i)
					}
				}
				f(g, h)
			}
		}
	}
}

// broken answers headers that can not be, each by one thing.
func broken(g api.Geo, h group.Head) []group.Head {
	var all []group.Head
	for _, no := range append([]int{g.Groups, g.Groups + 1, g.Groups + 16}, far...) {
		x := h
		x.No = no
		all = append(all, x)
	}
	for i := range 128 {
		if i < lead(g) || i >= g.Group {
			x := h
			x.Blocks[i/8] ^= 1 << (i % 8)
			all = append(all, x)
		}
	}
	for i := range 64 {
		if h.No == 0 && i < 2 || i >= g.Inodes {
			x := h
			x.Slots[i/8] ^= 1 << (i % 8)
			all = append(all, x)
		}
	}
	return all
}

// refused holds every call against a header or a shape that can not be.
func refused(t *testing.T, g api.Geo, h group.Head) {
	t.Helper()
	if group.Right(g, h) {
		t.Fatalf("Right(%v, %v)", g, h)
	}
	if b, e := group.Put(g, h); e != api.ErrArg || len(b) != 0 {
		t.Fatalf("Put(%v, %v) = %x, %d", g, h, b, e)
	}
	if blocks, slots := group.Free(g, h); blocks != 0 || slots != 0 {
		t.Fatalf("Free(%v, %v) = %d, %d", g, h, blocks, slots)
	}
	for _, i := range append([]int{0, 1, 2, 3, 5, 15, 16}, far...) {
		for _, on := range []bool{false, true} {
			if x, e := group.UseBlock(g, h, i, on); e != api.ErrArg || x != (group.Head{}) {
				t.Fatalf("UseBlock(%v, %v, %d, %v) = %v, %d", g, h, i, on, x, e)
			}
			if x, e := group.UseSlot(g, h, i, on); e != api.ErrArg || x != (group.Head{}) {
				t.Fatalf("UseSlot(%v, %v, %d, %v) = %v, %d", g, h, i, on, x, e)
			}
		}
		if group.FindBlock(g, h, i) != -1 || group.FindSlot(g, h, i) != -1 {
			t.Fatalf("Find(%v, %v, %d)", g, h, i)
		}
	}
}

func TestExample(t *testing.T) {
	h, e := group.Fresh(example, 0)
	if blocks, slots := group.Free(example, h); e != api.OK || blocks != 13 || slots != 6 {
		t.Error("Free", blocks, slots, e)
	}
	if at := group.FindBlock(example, h, 0); at != 3 {
		t.Error("FindBlock", at)
	}
	if at := group.FindSlot(example, h, 0); at != 2 {
		t.Error("FindSlot", at)
	}
}

// P6.1: a fresh header has no bit that need not be, and can be.
func TestFresh(t *testing.T) {
	for _, g := range shapes {
		for no := range g.Groups {
			h, e := group.Fresh(g, no)
			if e != api.OK || h != least(g, no) || !group.Right(g, h) {
				t.Errorf("Fresh(%v, %d) = %v, %d", g, no, h, e)
			}
		}
		for _, no := range append([]int{g.Groups, g.Groups + 1}, far...) {
			if h, e := group.Fresh(g, no); e != api.ErrArg || h != (group.Head{}) {
				t.Errorf("Fresh(%v, %d) = %v, %d", g, no, h, e)
			}
		}
	}
	for _, g := range wrong {
		for _, no := range append([]int{0, 1}, far...) {
			if h, e := group.Fresh(g, no); e != api.ErrArg || h != (group.Head{}) {
				t.Errorf("Fresh(%v, %d) = %v, %d", g, no, h, e)
			}
		}
	}
}

// P6.1, P6.2: headers and shapes that can not be are refused by all calls.
func TestRight(t *testing.T) {
	heads(func(g api.Geo, h group.Head) {
		if !group.Right(g, h) {
			t.Fatalf("Right(%v, %v) is false", g, h)
		}
	})
	for _, g := range shapes {
		for _, no := range []int{0, g.Groups - 1} {
			for _, h := range broken(g, least(g, no)) {
				refused(t, g, h)
			}
		}
		refused(t, g, group.Head{})
	}
	for _, g := range wrong {
		refused(t, g, least(example, 0))
		refused(t, g, least(example, 1))
		refused(t, g, group.Head{})
	}
}

// P6.1: every bit turned by itself, against the words of the chapter.
func TestRightBitByBit(t *testing.T) {
	heads(func(g api.Geo, h group.Head) {
		for i := range 128 {
			x := h
			x.Blocks[i/8] ^= 1 << (i % 8)
			if group.Right(g, x) != can(g, x) {
				t.Fatalf("Right(%v, %v) is %v", g, x, !can(g, x))
			}
		}
		for i := range 64 {
			x := h
			x.Slots[i/8] ^= 1 << (i % 8)
			if group.Right(g, x) != can(g, x) {
				t.Fatalf("Right(%v, %v) is %v", g, x, !can(g, x))
			}
		}
	})
}

// P6.1: Put's bytes; Free; P6.3: Get of Put.
func TestPut(t *testing.T) {
	heads(func(g api.Geo, h group.Head) {
		b, e := group.Put(g, h)
		if e != api.OK || !bytes.Equal(b, laid(g, h)) {
			t.Fatalf("Put(%v, %v) = %x, %d", g, h, b, e)
		}
		blocks, slots := group.Free(g, h)
		if wantBlocks, wantSlots := free(g, h); blocks != wantBlocks || slots != wantSlots {
			t.Fatalf("Free(%v, %v) = %d, %d", g, h, blocks, slots)
		}
		if back, e := group.Get(g, b); e != api.OK || back != h {
			t.Fatalf("Get(%v, Put(%v)) = %v, %d", g, h, back, e)
		}
		again, _ := group.Put(g, h)
		clear(b)
		if !bytes.Equal(again, laid(g, h)) {
			t.Fatal("two answers of Put share memory")
		}
	})
}

// said is what a header's bytes say, whether it can be or not.
func said(b []byte) group.Head {
	h := group.Head{No: int(b[4]) + 256*int(b[5])}
	copy(h.Blocks[:], b[16:32])
	copy(h.Slots[:], b[32:40])
	return h
}

// P6.1: every bit of a header's bytes turned by itself; a few make another header, which is told, all else is refused.
func TestGetTurned(t *testing.T) {
	for _, g := range shapes[1:5] {
		for no := range g.Groups {
			h := least(g, no)
			set(h.Blocks[:], lead(g)+1)
			set(h.Slots[:], 2)
			b := laid(g, h)
			for at := range 8 * len(b) {
				b[at/8] ^= 1 << (at % 8)
				want, errno := group.Head{}, api.ErrForm
				if x := said(b); can(g, x) && bytes.Equal(laid(g, x), b) {
					want, errno = x, api.OK
				}
				kept := bytes.Clone(b)
				if got, e := group.Get(g, b); e != errno || got != want || !bytes.Equal(b, kept) {
					t.Fatalf("Get(%v, bit %d turned) = %v, %d", g, at, got, e)
				}
				b[at/8] ^= 1 << (at % 8)
			}
		}
	}
}

// P6.1: bytes that hold together, of a header that can not be.
func TestGetBroken(t *testing.T) {
	for _, g := range shapes {
		for _, no := range []int{0, g.Groups - 1} {
			for _, h := range broken(g, least(g, no)) {
				if h.No < 0 || h.No > 255 {
					continue
				}
				b := laid(g, h)
				if got, e := group.Get(g, b); e != api.ErrForm || got != (group.Head{}) {
					t.Fatalf("Get(%v, %x) = %v, %d", g, b, got, e)
				}
			}
		}
	}
	high := laid(example, least(example, 1))
	high[5] = 1
	if got, e := group.Get(example, high); e != api.ErrForm || got != (group.Head{}) {
		t.Error("a number above 255", got, e)
	}
}

// P6.1: a group that another shape has not; the same bytes, the other shape.
func TestGetOtherShape(t *testing.T) {
	larger := api.Geo{Group: 16, Inodes: 8, Groups: 3}
	b := laid(larger, least(larger, 2))
	if h, e := group.Get(larger, b); e != api.OK || h != least(larger, 2) {
		t.Error("Get", h, e)
	}
	if h, e := group.Get(example, b); e != api.ErrForm || h != (group.Head{}) {
		t.Error("the third of two groups", h, e)
	}
}

// P6.1: the shape's error comes ahead of the length's, that ahead of the form's.
func TestGetRefused(t *testing.T) {
	good := laid(example, least(example, 0))
	for _, b := range [][]byte{nil, {}, {1}, good[:10], good[:40], good[:255], append(bytes.Clone(good), 0), make([]byte, 512)} {
		if h, e := group.Get(example, b); e != api.ErrSize || h != (group.Head{}) {
			t.Errorf("Get of %d bytes: %v, %d", len(b), h, e)
		}
	}
	for _, b := range [][]byte{make([]byte, 256), bytes.Repeat([]byte{255}, 256)} {
		if h, e := group.Get(example, b); e != api.ErrForm || h != (group.Head{}) {
			t.Errorf("Get(%x): %v, %d", b, h, e)
		}
	}
	for _, g := range wrong {
		for _, b := range [][]byte{nil, good[:255], good, make([]byte, 256)} {
			if h, e := group.Get(g, b); e != api.ErrArg || h != (group.Head{}) {
				t.Errorf("Get(%v, %d bytes): %v, %d", g, len(b), h, e)
			}
		}
	}
}

// side is one of a header's two maps, with the call that turns it: its bits from first to n - 1 can be turned.
type side struct {
	use           func(api.Geo, group.Head, int, bool) (group.Head, api.Errno)
	bits          func(*group.Head) []byte
	first, n      func(api.Geo, group.Head) int
	blocks, slots int // how many of each are used by one
}

// sides are those of the blocks and of the slots; the slots 0 and 1 of the group 0 can not be turned.
var sides = []side{
	{
		use:    group.UseBlock,
		bits:   func(h *group.Head) []byte { return h.Blocks[:] },
		first:  func(g api.Geo, h group.Head) int { return lead(g) },
		n:      func(g api.Geo, h group.Head) int { return g.Group },
		blocks: 1,
	},
	{
		use:   group.UseSlot,
		bits:  func(h *group.Head) []byte { return h.Slots[:] },
		first: func(g api.Geo, h group.Head) int { return max(0, 2-2*h.No) },
		n:     func(g api.Geo, h group.Head) int { return g.Inodes },
		slots: 1,
	},
}

// P6.2, P6.4: each block and slot used and given: that bit alone, one less free, all as it was behind it.
func TestUse(t *testing.T) {
	for _, s := range sides {
		heads(func(g api.Geo, h group.Head) {
			for i := -2; i < 140; i++ {
				if i < s.first(g, h) || i >= s.n(g, h) {
					s.refuse(t, g, h, i, true, api.ErrRange)
					s.refuse(t, g, h, i, false, api.ErrRange)
				} else {
					s.turn(t, g, h, i)
				}
			}
			for _, i := range far {
				s.refuse(t, g, h, i, true, api.ErrRange)
				s.refuse(t, g, h, i, false, api.ErrRange)
			}
		})
	}
}

// turn holds a bit that can be turned against the promise: not as it is, the other way, and back.
func (s side) turn(t *testing.T, g api.Geo, h group.Head, i int) {
	t.Helper()
	on := !has(s.bits(&h), i)
	s.refuse(t, g, h, i, !on, api.ErrState)
	want := h
	s.bits(&want)[i/8] ^= 1 << (i % 8)
	got, e := s.use(g, h, i, on)
	if e != api.OK || got != want {
		t.Fatalf("Use(%v, %v, %d, %v) = %v, %d", g, h, i, on, got, e)
	}
	held(t, g, h, got, on, s.blocks, s.slots)
	if back, e := s.use(g, got, i, !on); e != api.OK || back != h {
		t.Fatalf("Use(%v, %v, %d) there and back: %v, %d", g, h, i, back, e)
	}
}

// refuse wants an error.
func (s side) refuse(t *testing.T, g api.Geo, h group.Head, i int, on bool, want api.Errno) {
	t.Helper()
	if x, e := s.use(g, h, i, on); e != want || x != (group.Head{}) {
		t.Fatalf("Use(%v, %v, %d, %v) = %v, %d", g, h, i, on, x, e)
	}
}

// held: so many blocks and slots less are free, if they were used; more, if they were given; the header can be.
func held(t *testing.T, g api.Geo, was, is group.Head, on bool, blocks, slots int) {
	t.Helper()
	if !on {
		was, is = is, was
	}
	moreBlocks, moreSlots := group.Free(g, was)
	lessBlocks, lessSlots := group.Free(g, is)
	if moreBlocks != lessBlocks+blocks || moreSlots != lessSlots+slots {
		t.Fatalf("Free(%v, %v) = %d, %d; ahead of it %d, %d", g, is, lessBlocks, lessSlots, moreBlocks, moreSlots)
	}
	if !group.Right(g, was) || !group.Right(g, is) {
		t.Fatalf("Right(%v, %v) behind Use", g, is)
	}
}

// firstFree is Find by the words of the promise.
func firstFree(b []byte, n, from int) int {
	if from < 0 || from > n {
		from = 0
	}
	for i := range n {
		if at := (from + i) % n; !has(b, at) {
			return at
		}
	}
	return -1
}

// P6.2, P6.5: Find goes on from any place and round; what it tells can be used.
func TestFind(t *testing.T) {
	heads(func(g api.Geo, h group.Head) {
		all := append([]int{}, far...)
		for from := range 130 {
			all = append(all, from)
		}
		for _, from := range all {
			at := group.FindBlock(g, h, from)
			if at != firstFree(h.Blocks[:], g.Group, from) || at != bits.First(h.Blocks[:], g.Group, from) {
				t.Fatalf("FindBlock(%v, %v, %d) = %d", g, h, from, at)
			}
			if _, e := group.UseBlock(g, h, at, true); at >= 0 && e != api.OK {
				t.Fatalf("UseBlock(%v, %v, %d): %d", g, h, at, e)
			}
			at = group.FindSlot(g, h, from)
			if at != firstFree(h.Slots[:], g.Inodes, from) || at != bits.First(h.Slots[:], g.Inodes, from) {
				t.Fatalf("FindSlot(%v, %v, %d) = %d", g, h, from, at)
			}
			if _, e := group.UseSlot(g, h, at, true); at >= 0 && e != api.OK {
				t.Fatalf("UseSlot(%v, %v, %d): %d", g, h, at, e)
			}
		}
	})
}

// P6.4, P6.5: what Find tells, used again and again, is each data block and each slot once; then there is none.
func TestFindAll(t *testing.T) {
	for _, g := range shapes {
		for _, no := range []int{0, g.Groups - 1} {
			h, _ := group.Fresh(g, no)
			blocks, slots := group.Free(g, h)
			for left := blocks; left >= 0; left-- {
				at := group.FindBlock(g, h, 40-left)
				kind, of := geo.Kind(g, 2+no*g.Group+at)
				if left > 0 && (kind != geo.Data || of != no) || left == 0 && at != -1 {
					t.Fatalf("FindBlock(%v, %v) = %d with %d free", g, h, at, left)
				}
				if left > 0 {
					h, _ = group.UseBlock(g, h, at, true)
				}
			}
			for left := slots; left >= 0; left-- {
				at := group.FindSlot(g, h, 0)
				if left == 0 && at != -1 || left > 0 && at != g.Inodes-left {
					t.Fatalf("FindSlot(%v, %v) = %d with %d free", g, h, at, left)
				}
				if left > 0 {
					h, _ = group.UseSlot(g, h, at, true)
				}
			}
			if blocks, slots := group.Free(g, h); blocks != 0 || slots != 0 {
				t.Fatalf("Free(%v, %v) = %d, %d of a full group", g, h, blocks, slots)
			}
		}
	}
}
