package alloc_test

import (
	"testing"

	"levee/alloc"
	"levee/api"
	"levee/disk"
	"levee/geo"
	"levee/push"
	"levee/vol"
)

// dice gives the same numbers below n in every run.
type dice uint32

func (d *dice) below(n int) int {
	*d ^= *d << 13
	*d ^= *d >> 17
	*d ^= *d << 5
	return int(uint32(*d) % uint32(n))
}

// waiting is one that is given, and the change that it waits for.
type waiting struct {
	n  int
	id int64
	of *list
}

// list is all blocks, or all slots, by their numbers: the groups that they are of (-1: none that is ever taken), and which are taken.
type list struct {
	group []int
	taken []bool
}

// model is a volume's blocks and slots by the chapter's words.
type model struct {
	v      *vol.Vol
	blocks list
	slots  list
	frozen []bool
	waits  []waiting
	count  int64 // of changes
}

func newModel(v *vol.Vol) *model {
	g := v.Geo()
	m := &model{v: v, frozen: make([]bool, g.Groups)}
	for b := range geo.Size(g) {
		kind, k := geo.Kind(g, b)
		if kind != geo.Data {
			k = -1
		}
		m.blocks.group = append(m.blocks.group, k)
	}
	for s := range geo.Slots(g) {
		m.slots.group = append(m.slots.group, s/g.Inodes)
	}
	m.slots.group[0], m.slots.group[1] = -1, -1
	m.blocks.taken = make([]bool, len(m.blocks.group))
	m.slots.taken = make([]bool, len(m.slots.group))
	return m
}

// find answers the first one of a group that is free, from a number on and round; -1 of none.
func (l *list) find(k, from int) int {
	first := -1
	for n := range l.group {
		if l.group[n] != k || l.taken[n] {
			continue
		}
		if n >= from {
			return n
		}
		if first < 0 {
			first = n
		}
	}
	return first
}

// next is what the chapter takes near another one; -1 of none. The slots 0 and 1 come to the same as none: ahead of the place behind them nothing is free.
func (m *model) next(l *list, near int) int {
	at, from := 0, 0
	if near >= 0 && near < len(l.group) && l.group[near] >= 0 {
		at, from = l.group[near], near+1
	}
	for i := range m.frozen {
		k := (at + i) % len(m.frozen)
		if m.frozen[k] {
			continue
		}
		if i > 0 {
			from = 0
		}
		if n := l.find(k, from); n >= 0 {
			return n
		}
	}
	return -1
}

// take takes one, and holds it against the chapter's.
func (m *model) take(t *testing.T, l *list, call func(int) (int, int64, api.Errno), near int) {
	t.Helper()
	want := m.next(l, near)
	n, id, e := call(near)
	if want < 0 {
		if n != 0 || id != 0 || e != api.ErrSpace {
			t.Errorf("near %d: %d, %d, %d of none", near, n, id, e)
		}
		return
	}
	m.count++
	if n != want || id != m.count || e != api.OK {
		t.Errorf("near %d: %d, %d, %d, not %d, %d", near, n, id, e, want, m.count)
	}
	l.taken[want] = true
}

// give gives one behind a change.
func (m *model) give(t *testing.T, l *list, call func(int, int64) api.Errno, n int, id int64) {
	t.Helper()
	want := api.OK
	if n < 0 || n >= len(l.group) || l.group[n] < 0 {
		want = api.ErrRange
	} else if !l.taken[n] || m.waiting(l, n) {
		want = api.ErrState
	}
	answers(t, "giving one", call(n, id), want)
	if want == api.OK {
		m.waits = append(m.waits, waiting{n, id, l})
	}
}

func (m *model) waiting(l *list, n int) bool {
	for _, w := range m.waits {
		if w.of == l && w.n == n {
			return true
		}
	}
	return false
}

// settle frees what waits no more.
func (m *model) settle(t *testing.T, a *alloc.Alloc) {
	t.Helper()
	var left, ripe []waiting
	for _, w := range m.waits {
		if w.id < 1 || m.v.Store().Safe(w.id) {
			ripe = append(ripe, w)
		} else {
			left = append(left, w)
		}
	}
	m.waits = left
	m.count += int64(len(ripe))
	before, slots := a.Free()
	settled(t, a, len(ripe))
	for _, w := range ripe {
		w.of.taken[w.n] = false
		if m.frozen[w.of.group[w.n]] {
			continue
		}
		if w.of == &m.blocks {
			before++
		} else {
			slots++
		}
	}
	free(t, a, before, slots)
}

// count is how many of a list are, or are not, taken in the groups that are asked.
func (l *list) count(taken bool, asked func(k int) bool) int {
	n := 0
	for i, k := range l.group {
		if k >= 0 && l.taken[i] == taken && asked(k) {
			n++
		}
	}
	return n
}

// holds asks for all that can be asked.
func (m *model) holds(t *testing.T, a *alloc.Alloc) {
	t.Helper()
	open := func(k int) bool { return !m.frozen[k] }
	free(t, a, m.blocks.count(false, open), m.slots.count(false, open))
	for k := range m.frozen {
		this := func(other int) bool { return other == k }
		used(t, a, k, m.blocks.count(true, this), m.slots.count(true, this))
		if a.Frozen(k) != m.frozen[k] {
			t.Errorf("Frozen(%d)", k)
		}
	}
	for b, taken := range m.blocks.taken {
		if a.Taken(b) != taken {
			t.Errorf("Taken(%d): %v", b, !taken)
		}
	}
	if m.v.Work().Len() != len(m.waits) {
		t.Error("what waits", m.v.Work().Len(), len(m.waits))
	}
}

// call makes one of all calls.
func (m *model) call(t *testing.T, a *alloc.Alloc, r *dice) {
	t.Helper()
	id := int64(r.below(int(m.count)+4) - 1)
	blocks, slots := len(m.blocks.group)+4, len(m.slots.group)+4
	switch k := r.below(40); {
	case k < 10:
		m.take(t, &m.blocks, a.Block, r.below(blocks)-2)
	case k < 16:
		m.take(t, &m.slots, a.Slot, r.below(slots)-2)
	case k < 24:
		m.give(t, &m.blocks, a.FreeBlock, r.below(blocks)-2, id)
	case k < 29:
		m.give(t, &m.slots, a.FreeSlot, r.below(slots)-2, id)
	case k < 31:
		m.settle(t, a)
	case k < 33:
		at := r.below(len(m.frozen))
		m.frozen[at] = r.below(3) == 0
		answers(t, "Freeze", a.Freeze(at, m.frozen[at]), api.OK)
	case k < 37:
		push.Step(m.v.Store(), r.below(9))
	case k < 39:
		m.v.Store().Flush()
	default:
		push.All(m.v.Store())
	}
}

// P14.1 to P14.5: any calls, one behind the other, on volumes of one group to four.
func TestAnyCalls(t *testing.T) {
	r := dice(2463534242)
	for run := range 200 {
		a, v := fresh(t, api.Geo{Group: 16 + r.below(3), Inodes: 4 + 4*r.below(3), Groups: 1 + r.below(4)})
		m := newModel(v)
		for range 150 {
			m.call(t, a, &r)
			m.holds(t, a)
		}
		if t.Failed() {
			t.Fatalf("run %d", run)
		}
	}
}

// P14.4: behind any crash a block that is spoken of safely is taken on the disk: none is taken for another thing ahead of that.
func TestGivenAndTakenAnew(t *testing.T) {
	for stop := range 30 {
		for pick := range 3 {
			d, _ := disk.New(34)
			a, v := on(t, d, example)
			d.Stop(stop)
			owner, last := 2, int64(0)
			for range 4 {
				// the block 5 is of one slot alone, again and again of another one
				b, id, e := a.Block(0)
				if e != api.OK {
					t.Fatal("Block", e)
				}
				last, _ = v.SetInode(owner, api.Inode{Kind: api.File, Links: 1, Size: 9, Id: int64(owner), P: [api.Direct]int{b}}, id)
				push.One(v.Store(), last)
				last, _ = v.SetInode(owner, api.Inode{})
				if e := a.FreeBlock(b, last); e != api.OK {
					t.Fatal("FreeBlock", e)
				}
				push.Step(v.Store(), stop)
				v.Store().Flush()
				a.Settle()
				owner++
			}
			d.Crash([]int{pick % 2, pick / 2, 1})
			again, e := vol.Mount(d)
			if e != api.OK {
				t.Fatal("Mount", e)
			}
			owned(t, again)
		}
	}
}

// owned holds the blocks that inodes name against the headers: each is taken, and named once.
func owned(t *testing.T, v *vol.Vol) {
	t.Helper()
	a := alloc.New(v)
	met := map[int]int{}
	for s := 2; s < geo.Slots(v.Geo()); s++ {
		i, e := v.Inode(s)
		if e != api.OK || i.Kind == api.Free {
			continue
		}
		met[i.P[0]]++
		if !a.Taken(i.P[0]) || met[i.P[0]] > 1 {
			t.Errorf("the block %d of slot %d is free, or another one's", i.P[0], s)
		}
	}
}
