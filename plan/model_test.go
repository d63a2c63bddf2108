package plan_test

import (
	"math"
	"slices"
	"testing"

	"levee/alloc"
	"levee/api"
	"levee/geo"
	"levee/plan"
	"levee/push"
)

// dice gives the same numbers below n in every run.
type dice uint32

func (d *dice) below(n int) int {
	*d ^= *d << 13
	*d ^= *d >> 17
	*d ^= *d << 5
	return int(uint32(*d) % uint32(n))
}

// model is the blocks that are free, as the test took and gave them, and the groups that are frozen.
type model struct {
	g      api.Geo
	free   map[int]bool
	frozen map[int]bool
	waits  map[int]int64
}

func newModel(g api.Geo) *model {
	m := &model{g: g, free: map[int]bool{}, frozen: map[int]bool{}, waits: map[int]int64{}}
	for b := range geo.Size(g) {
		if kind, _ := geo.Kind(g, b); kind == geo.Data {
			m.free[b] = true
		}
	}
	return m
}

// in tells whether b is a free data block of group k.
func (m *model) in(k, b int) bool {
	_, of := geo.Kind(m.g, b)
	return of == k && m.free[b]
}

// runs is the chapter's words: all places and lengths for which they hold.
func (m *model) runs(k int) []plan.Run {
	var l []plan.Run
	for at := range geo.Size(m.g) {
		if !m.in(k, at) || m.in(k, at-1) {
			continue
		}
		behind := at
		for m.in(k, behind) {
			behind++
		}
		l = append(l, plan.Run{At: at, N: behind - at})
	}
	return l
}

func (m *model) all() []plan.Run {
	var l []plan.Run
	for k := range m.g.Groups {
		if !m.frozen[k] {
			l = append(l, m.runs(k)...)
		}
	}
	return l
}

// choose answers the first of runs by an order, of those with at least n blocks.
func choose(l []plan.Run, n int, order func(r, s plan.Run) int) plan.Run {
	l = slices.DeleteFunc(slices.Clone(l), func(r plan.Run) bool { return r.N < n })
	slices.SortStableFunc(l, order)
	return append(l, plan.Run{})[0]
}

func rising(r, s plan.Run) int  { return r.N - s.N }
func falling(r, s plan.Run) int { return s.N - r.N }

// holds holds all that can be asked against the chapter's words.
func (m *model) holds(t *testing.T, a *alloc.Alloc) {
	t.Helper()
	for k := range m.g.Groups {
		runs(t, "Runs", plan.Runs(a, k), m.runs(k)...)
	}
	l := m.all()
	runs(t, "All", plan.All(a), l...)
	run(t, "Longest", plan.Longest(a), choose(l, 1, falling))
	free, most := 0, 0
	var want [8]int
	for _, r := range l {
		free += r.N
		most = max(most, r.N)
		want[int(math.Log2(float64(r.N)))]++
	}
	sizes(t, a, want)
	if blocks, _ := a.Free(); blocks != free {
		t.Errorf("all runs have %d blocks, %d are free", free, blocks)
	}
	score := 0
	if free > 0 {
		score = 1000 - 1000*most/free
	}
	number(t, "Score", plan.Score(a), score)
	for _, n := range []int{1, 2, 3, most, most + 1} {
		room := 0
		for _, r := range l {
			for left := r.N; n > 0 && left >= n; left -= n {
				room++
			}
		}
		number(t, "Room", plan.Room(a, n), room)
		if n > 0 {
			run(t, "Best", plan.Best(a, n), choose(l, n, rising))
		}
	}
}

// settle frees what waits no more.
func (m *model) settle(a *alloc.Alloc) {
	for b, id := range m.waits {
		if id < 1 || a.Vol().Store().Safe(id) {
			m.free[b] = true
			delete(m.waits, b)
		}
	}
	a.Settle()
}

// call makes one of all calls by which something becomes free, or is not.
func (m *model) call(t *testing.T, a *alloc.Alloc, r *dice) {
	t.Helper()
	at := r.below(geo.Size(m.g))
	switch k := r.below(20); {
	case k < 9:
		if b, _, e := a.Block(at); e == api.OK {
			m.free[b] = false
		}
	case k < 15:
		id := int64(0)
		if r.below(2) == 0 {
			id, _ = a.Vol().SetData(at, 0, []byte{1})
		}
		if a.FreeBlock(at, id) == api.OK {
			m.waits[at] = id
		}
	case k < 17:
		m.settle(a)
	case k < 18:
		push.All(a.Vol().Store())
	default:
		k := r.below(m.g.Groups)
		m.frozen[k] = r.below(3) == 0
		freeze(t, a, k, m.frozen[k])
	}
}

// P31.1 to P31.4: any calls, one behind the other, on volumes of one group to four: each time all is told as the words say, and all runs have as many blocks as are free.
func TestAnyCalls(t *testing.T) {
	r := dice(2463534242)
	broken := 0
	for i := range 40 {
		g := api.Geo{Group: 16 + r.below(20), Inodes: 4 + 4*r.below(3), Groups: 1 + r.below(4)}
		a, m := fresh(t, g), newModel(g)
		for range 50 {
			m.call(t, a, &r)
			m.holds(t, a)
			broken = max(broken, len(plan.All(a)))
		}
		if t.Failed() {
			t.Fatalf("run %d", i)
		}
	}
	if broken < 10 {
		t.Error("never many runs", broken)
	}
}
