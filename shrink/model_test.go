package shrink_test

import (
	"fmt"
	"slices"
	"strings"
	"testing"

	"levee/api"
	"levee/geo"
	"levee/group"
	"levee/grow"
	"levee/shrink"
)

// changing is a machine whose volume gets larger and smaller.
type changing struct {
	*machine
	g *grow.Grow
	s *shrink.Shrink
}

func newChanging(t *testing.T, r *dice) changing {
	t.Helper()
	of := api.Geo{Group: 20 + r.below(24), Inodes: []int{4, 8, 12}[r.below(3)], Groups: 2 + r.below(3)}
	m := newMachine(t, r, 2+of.Group*(of.Groups+r.below(3))+r.below(16), of)
	return changing{machine: m, g: grow.New(m.x), s: shrink.New(m.x)}
}

// frozen lists the groups that are frozen.
func (m changing) frozen() []int {
	var some []int
	for k := range api.MaxGroups {
		if m.files().Alloc().Frozen(k) {
			some = append(some, k)
		}
	}
	return some
}

// inside is what is free in the groups that a smaller volume has not.
func (m changing) inside(groups int) (int, int) {
	blocks, slots := 0, 0
	for k := groups; k < m.volume().Geo().Groups; k++ {
		h, _ := m.volume().Head(k)
		b, s := group.Free(m.volume().Geo(), h)
		blocks += b
		slots += s
	}
	return blocks, slots
}

// begins lets the volume get smaller.
func (m changing) begins() (string, api.Errno) {
	groups, has, target := m.r.below(6)-1, m.volume().Geo().Groups, m.s.Target()
	var want api.Errno
	switch {
	case target != 0:
		want = api.ErrState
	case groups < 1 || groups >= has:
		want = api.ErrArg
	case m.g.Target() != 0: // one of both at a time
		return "nothing", api.OK
	}
	blocks, slots := m.fs().Free()
	b, s := m.inside(groups)
	e := m.s.Begin(groups)
	if want != api.OK {
		b, s = 0, 0
	} else {
		target = groups
	}
	nowBlocks, nowSlots := m.fs().Free()
	if e != want || m.s.Target() != target || nowBlocks != blocks-b || nowSlots != slots-s {
		m.t.Errorf("Begin(%d) of %d: %d, not %d; %d, %d are free, of %d, %d", groups, has, e, want, nowBlocks, nowSlots, blocks, slots)
	}
	return fmt.Sprint("Begin ", groups), e
}

// next is what a step must answer, and what it has to move.
func (m changing) next() (over bool, errno api.Errno, b, slot int) {
	if m.s.Target() == 0 {
		return false, api.ErrState, 0, 0
	}
	blocks, slots := m.fs().Free()
	for k := m.s.Target(); k < m.volume().Geo().Groups; k++ {
		if some := m.x.Mover().Blocks(k); b == 0 && len(some) > 0 {
			b = some[0]
		}
		if some := m.x.Mover().Slots(k); slot == 0 && len(some) > 0 {
			slot = some[0]
		}
	}
	switch {
	case b == 0 && slot == 0:
		return true, api.OK, 0, 0
	case b != 0 && blocks == 0 || b == 0 && slots == 0:
		return true, api.ErrSpace, b, slot
	}
	return false, api.OK, b, slot
}

// steps does a step.
func (m changing) steps() (string, api.Errno) {
	over, errno, b, slot := m.next()
	target, was, gen := m.s.Target(), m.volume().Geo(), m.volume().Gen()
	blocks, slots := m.s.Left()
	o, e := m.s.Step()
	what := fmt.Sprint("Step ", o)
	if o != over || e != errno {
		m.t.Errorf("Step: %t, %d, not %t, %d", o, e, over, errno)
	}
	if over {
		if m.s.Target() != 0 || len(m.frozen()) != 0 {
			m.t.Errorf("it is over, and the target %d, frozen are %v", m.s.Target(), m.frozen())
		}
	}
	if !over || e != api.OK {
		if m.volume().Geo() != was || m.volume().Gen() != gen {
			m.t.Errorf("Step: the volume is %v, %d", m.volume().Geo(), m.volume().Gen())
		}
	} else {
		m.ended(target, gen)
	}
	if !over && e == api.OK {
		nowBlocks, nowSlots := m.s.Left()
		_, no := m.x.Mover().Owner(b)
		i, _ := m.files().Get(slot)
		moved := b != 0 && nowBlocks == blocks-1 && nowSlots == slots && no == api.ErrNone
		if b == 0 {
			moved = blocks == 0 && nowBlocks == 0 && nowSlots == slots-1 && i == (api.Inode{})
		}
		if !moved {
			m.t.Errorf("Step: left are %d, %d, of %d, %d; the next ones were %d, %d", nowBlocks, nowSlots, blocks, slots, b, slot)
		}
	}
	return what, e
}

// ended is a volume that is smaller: all is safe.
func (m changing) ended(target int, gen int64) {
	m.calls["over"]++
	if m.volume().Geo().Groups != target || m.volume().Gen() != gen+1 || !m.sync().Quiet() {
		m.t.Errorf("it is over: the volume is %v, %d", m.volume().Geo(), m.volume().Gen())
	}
	if !m.d.Stopped() {
		m.safe()
	}
	m.shaped()
}

// stops lets it stay as it is.
func (m changing) stops() (string, api.Errno) {
	target := m.s.Target()
	e := m.s.Stop()
	if (target == 0) != (e == api.ErrState) || m.s.Target() != 0 || len(m.frozen()) != 0 {
		m.t.Errorf("Stop: %d; frozen are %v", e, m.frozen())
	}
	return "Stop", e
}

// enlarges makes the volume larger, or begins with it.
func (m changing) enlarges() (string, api.Errno) {
	if m.s.Target() != 0 {
		return "nothing", api.OK
	}
	if m.g.Target() == 0 {
		more := 1 + m.r.below(2)
		return fmt.Sprint("grow ", more), m.g.Begin(m.volume().Geo().Groups + more)
	}
	over, e := m.g.Step()
	if over {
		m.shaped()
		m.calls["larger"]++
	}
	return fmt.Sprint("enlarge ", over), e
}

// step makes some call.
func (m changing) step() {
	m.t.Helper()
	switch k := m.r.below(100); {
	case k < 38:
		m.call()
	case k < 50:
		m.quietly(m.makes)
	case k < 58:
		m.quietly(m.moves)
	case k < 66:
		m.quietly(m.begins)
	case k < 68:
		m.quietly(m.stops)
	case k < 76:
		m.quietly(m.enlarges)
	default:
		m.quietly(m.steps)
	}
	var want []int
	for k := m.s.Target(); k > 0 && k < m.volume().Geo().Groups; k++ {
		want = append(want, k)
	}
	if got := m.frozen(); !slices.Equal(got, want) {
		m.t.Errorf("frozen are %v, not %v", got, want)
	}
}

// P24.3, P24.5 (P1, P2, P3): any calls, the volume getting larger and smaller between, and the power gone behind each.
func TestAnyCalls(t *testing.T) {
	r := dice(2463534242)
	calls := map[string]int{}
	for run := range 50 {
		m := newChanging(t, &r)
		for step := range 250 {
			m.step()
			m.crash()
			m.crash()
			if t.Failed() {
				t.Fatalf("run %d, step %d:\n%s", run, step, strings.Join(m.log, "\n"))
			}
		}
		m.s.Stop()
		m.whole()
		for what, n := range m.calls {
			calls[what] += n
		}
	}
	often(t, calls, "create 0", "mkdir 0", "link 0", "unlink 0", "rmdir 0", "rename 0", "write 0", "truncate 0", "create 26", "Write 0", "Flush 0", "Fsync 0", "Sync 0", "Block 0", "Move 0", "Begin 0", "Begin 1", "Begin 6", "Step 0", "Step 6", "Step 26", "Stop 0", "Stop 6", "over", "larger")
}

// P24.5 (P2, P3): any calls behind a Sync, and the disk stopped at each of its writes and flushes.
func TestEachStop(t *testing.T) {
	for seed := range 5 {
		for stop := 0; ; stop++ {
			r := dice(31337 + 17*seed)
			m := newChanging(t, &r)
			for range 40 {
				m.call()
				m.quietly(m.moves)
			}
			m.sync().Sync()
			m.safe()
			m.d.Stop(stop)
			for k := 0; k < 60 && !m.d.Stopped(); k++ {
				m.step()
			}
			ended := !m.d.Stopped()
			for range 3 {
				m.crash()
			}
			if t.Failed() {
				t.Fatalf("seed %d, stopped at %d:\n%s", seed, stop, strings.Join(m.log, "\n"))
			}
			if ended {
				break
			}
		}
	}
}

// P24.4 (P5): if nothing else is called, it is over behind as many steps as there are to be moved, and one, if as many are free; else it ends with ErrSpace, and all is as it was.
func TestProgress(t *testing.T) {
	r := dice(19088743)
	smaller, short := 0, 0
	for run := range 200 {
		m := newChanging(t, &r)
		for range 10 + r.below(120) {
			m.call()
			if r.below(2) == 0 {
				m.quietly(m.moves)
			}
		}
		if r.below(4) > 0 {
			m.sync().Sync()
		}
		quiet := m.sync().Quiet()
		was, shape := told(t, m.x), m.volume().Geo()
		answers(t, "Begin", m.s.Begin(1+r.below(shape.Groups-1)), api.OK)
		freeBlocks, freeSlots := m.fs().Free()
		blocks, slots := m.s.Left()
		enough := freeBlocks >= blocks && freeSlots >= slots
		want, to := 0, m.s.Target()
		over, e := false, api.OK
		for !over && want <= blocks+slots+1 {
			over, e = m.s.Step()
			want++
		}
		switch {
		case enough && (!over || e != api.OK || want != blocks+slots+1 || m.volume().Geo().Groups != to):
			t.Errorf("%d, %d are free, and %d, %d to be moved: %t, %d behind %d steps", freeBlocks, freeSlots, blocks, slots, over, e, want)
		case !enough && quiet && (!over || e != api.ErrSpace || m.volume().Geo() != shape || want != ending(freeBlocks, freeSlots, blocks)):
			t.Errorf("%d, %d are free, and %d, %d to be moved: %t, %d behind %d steps", freeBlocks, freeSlots, blocks, slots, over, e, want)
		case !over || len(m.frozen()) != 0 || m.s.Target() != 0:
			t.Errorf("it is over: %t; frozen are %v", over, m.frozen())
		}
		if enough {
			smaller++
		} else {
			short++
		}
		if now := told(t, m.x); now != was {
			t.Errorf("it tells\n%s\nnot\n%s", now, was)
		}
		m.now = m.look()
		m.shapes = []api.Geo{m.volume().Geo()}
		m.whole()
		if t.Failed() {
			t.Fatalf("run %d:\n%s", run, strings.Join(m.log, "\n"))
		}
	}
	if smaller < 40 || short < 15 {
		t.Errorf("%d had room, %d had not", smaller, short)
	}
}

// ending is the number of the step that ends with ErrSpace: the one behind that which takes the last free block, or the last free slot.
func ending(freeBlocks, freeSlots, blocks int) int {
	if freeBlocks < blocks {
		return freeBlocks + 1
	}
	return blocks + freeSlots + 1
}

// P24.2: of the groups that went nothing is taken any more, safely.
func TestGroupsThatWent(t *testing.T) {
	r := dice(123459876)
	for range 20 {
		m := newChanging(t, &r)
		for range 80 {
			m.call()
			m.quietly(m.moves)
		}
		was := m.volume().Geo()
		m.s.Begin(1)
		for over := false; !over; over, _ = m.s.Step() {
		}
		if m.volume().Geo() == was {
			continue
		}
		for k := 1; k < was.Groups; k++ {
			b, _ := geo.Head(was, k)
			data, _ := m.d.Safe(b)
			fresh, _ := group.Fresh(was, k)
			if h, e := group.Get(was, data); h != fresh || e != api.OK {
				t.Errorf("the header of the group %d, that went, is %v, %d", k, h, e)
			}
		}
	}
}
