package defrag_test

import (
	"bytes"
	"fmt"
	"slices"
	"strings"
	"testing"

	"levee/api"
	"levee/check"
	"levee/defrag"
	"levee/geo"
	"levee/grow"
	"levee/inode"
	"levee/shrink"
)

// ordering is a machine whose things are put in order, while its volume gets larger and smaller.
type ordering struct {
	*machine
	k     *defrag.Defrag
	g     *grow.Grow
	s     *shrink.Shrink
	queue []int // the slots that are to be gone through; nil, if nothing is under way
}

func newOrdering(t *testing.T, r *dice) *ordering {
	t.Helper()
	of := api.Geo{Group: 20 + r.below(24), Inodes: []int{4, 8, 12}[r.below(3)], Groups: 1 + r.below(3)}
	m := newMachine(t, r, 2+of.Group*(of.Groups+r.below(2))+r.below(16), of)
	return &ordering{machine: m, k: defrag.New(m.x), g: grow.New(m.x), s: shrink.New(m.x)}
}

// layout is where the blocks of bytes of a slot's thing stand: by their n, and these n, rising; and how many rows that is. False, if there is no thing.
func (m *ordering) layout(slot int) ([]int, []int, int, bool) {
	i, e := m.files().Get(slot)
	if e != api.OK || i.Kind == api.Free {
		return nil, nil, 0, false
	}
	var blocks, ns []int
	rows := 0
	for n := range inode.Blocks(i) {
		b, _ := m.files().Where(slot, n)
		if b == 0 {
			continue
		}
		if last := len(blocks) - 1; last < 0 || blocks[last]+1 != b || ns[last]+1 != n {
			rows++
		}
		blocks, ns = append(blocks, b), append(ns, n)
	}
	return blocks, ns, rows, true
}

// pieces is how many rows holes break a thing in.
func pieces(ns []int) int {
	many := min(len(ns), 1)
	for at := 1; at < len(ns); at++ {
		if ns[at] != ns[at-1]+1 {
			many++
		}
	}
	return many
}

// turned does something that is to put a slot's thing in order, and holds what comes of it; it answers the errors of File: of nothing, and of no room.
func (m *ordering) turned(slot int, do func()) (int, int, api.Errno) {
	blocks, ns, was, there := m.layout(slot)
	own, _ := m.files().Owned(slot)
	to := least(m.k, len(blocks))
	free, slots := m.fs().Free()
	do()
	now, _, is, _ := m.layout(slot)
	nowFree, nowSlots := m.fs().Free()
	nowOwn, _ := m.files().Owned(slot)
	want, errno := blocks, api.OK
	switch {
	case !there:
		errno = api.ErrNone
	case was > 1 && to == 0:
		errno = api.ErrSpace
	case was > 1:
		want, free = row(to, len(blocks)), free-len(blocks)
		if is != pieces(ns) || is > was || len(nowOwn) != len(own) {
			m.t.Errorf("of %d rows there are %d, and %d holes", was, is, pieces(ns)-1)
		}
		m.calls["ordered"]++
		if was > is {
			m.calls["fewer rows"]++
		}
	}
	if !slices.Equal(now, want) || nowFree != free || nowSlots != slots {
		m.t.Errorf("the blocks of %d are %v, not %v; %d and %d are free, not %d and %d", slot, now, want, nowFree, nowSlots, free, slots)
	}
	if errno == api.ErrNone {
		return 0, 0, errno
	}
	return was, is, errno
}

// file puts some thing in order.
func (m *ordering) file() (string, api.Errno) {
	slot := m.r.below(geo.Slots(m.volume().Geo()))
	if things := m.x.Mover().Things(); m.r.below(5) > 0 {
		slot = things[m.r.below(len(things))]
	}
	var a, b int
	var e api.Errno
	was, is, errno := m.turned(slot, func() { a, b, e = m.k.File(slot) })
	if a != was || b != is || e != errno {
		m.t.Errorf("File(%d): %d, %d, %d, not %d, %d, %d", slot, a, b, e, was, is, errno)
	}
	return fmt.Sprint("File ", slot), e
}

// begins begins, if nothing is under way.
func (m *ordering) begins() (string, api.Errno) {
	e, want := m.k.Begin(), api.OK
	if m.queue != nil {
		want = api.ErrState
	} else {
		m.queue = m.x.Mover().Things()
	}
	if e != want || !m.k.Busy() {
		m.t.Errorf("Begin: %d, not %d, Busy: %t", e, want, m.k.Busy())
	}
	return "Begin", e
}

// steps does a step.
func (m *ordering) steps() (string, api.Errno) {
	over, e := false, api.OK
	step := func() { over, e = m.k.Step() }
	if m.queue == nil {
		if step(); over || e != api.ErrState || m.k.Busy() {
			m.t.Errorf("Step: %t, %d, Busy: %t", over, e, m.k.Busy())
		}
		return "Step", e
	}
	slot := m.queue[0]
	if m.queue = m.queue[1:]; len(m.queue) == 0 {
		m.queue = nil
	}
	_, _, no := m.turned(slot, step)
	if over != (m.queue == nil) || e != api.OK || m.k.Busy() == over {
		m.t.Errorf("Step: %t, %d, Busy: %t, and %v are left", over, e, m.k.Busy(), m.queue)
	}
	m.calls[fmt.Sprint("turn ", no)]++
	return fmt.Sprint("Step ", slot), e
}

// sizes makes the volume larger or smaller, or begins with it.
func (m *ordering) sizes() (string, api.Errno) {
	var e api.Errno
	what := "larger or smaller"
	switch {
	case m.g.Target() > 0:
		_, e = m.g.Step()
		m.shaped()
	case m.s.Target() > 0:
		_, e = m.s.Step()
		m.shaped()
	case m.r.below(2) == 0:
		what, e = "grow", m.g.Begin(1+m.r.below(6))
	default:
		what, e = "shrink", m.s.Begin(1+m.r.below(4))
	}
	return what, e
}

// fills writes to an open file, so that little is free.
func (m *machine) fills() {
	fd, off, n := m.r.below(3), int64(m.r.below(24))*api.Block, 1+m.r.below(1200)
	e := m.fs().Write(fd, off, bytes.Repeat([]byte{byte(1 + m.r.below(255))}, n))
	m.did(fmt.Sprint("fill ", fd, off, n), e)
	if e == api.OK {
		m.watch()
	}
}

// step makes some call.
func (m *ordering) step() {
	m.t.Helper()
	switch k := m.r.below(100); {
	case k < 35:
		m.call()
	case k < 45:
		m.fills()
	case k < 56:
		m.quietly(m.makes)
	case k < 61:
		m.quietly(m.moves)
	case k < 67:
		m.quietly(m.sizes)
	case k < 78:
		m.quietly(m.file)
	case k < 84:
		m.quietly(m.begins)
	default:
		m.quietly(m.steps)
	}
}

// P25.2 to P25.5 (P1, P2, P3): any calls, things put in order between, and the power gone behind each.
func TestAnyCalls(t *testing.T) {
	r := dice(3141592653)
	calls := map[string]int{}
	for run := range 45 {
		m := newOrdering(t, &r)
		for step := range 250 {
			m.step()
			m.crash()
			if t.Failed() {
				t.Fatalf("run %d, step %d:\n%s", run, step, strings.Join(m.log, "\n"))
			}
		}
		m.s.Stop()
		m.whole()
		if report, e := check.Whole(m.d); e != api.OK {
			t.Fatalf("run %d: %v, %d", run, report, e)
		}
		for what, n := range m.calls {
			calls[what] += n
		}
	}
	often(t, calls, "create 0", "mkdir 0", "link 0", "unlink 0", "rmdir 0", "rename 0", "write 0", "truncate 0", "Write 0", "Flush 0", "Fsync 0", "Sync 0", "Block 0", "Move 0", "File 0", "File 20", "File 26", "Begin 0", "Begin 6", "Step 0", "Step 6", "turn 0", "turn 20", "turn 26", "ordered", "fewer rows", "grow 0", "shrink 0", "larger 0")
}

// P25.5 (P2, P3): any calls behind a Sync, and the disk stopped at each of its writes and flushes.
func TestEachStop(t *testing.T) {
	for seed := range 3 {
		for stop := 0; ; stop++ {
			r := dice(27182818 + 31*seed)
			m := newOrdering(t, &r)
			for range 60 {
				m.call()
			}
			m.sync().Sync()
			m.safe()
			m.d.Stop(stop)
			for k := 0; k < 60 && !m.d.Stopped(); k++ {
				m.step()
			}
			ended := !m.d.Stopped()
			for range 3 {
				m.crash()
			}
			if t.Failed() {
				t.Fatalf("seed %d, stopped at %d:\n%s", seed, stop, strings.Join(m.log, "\n"))
			}
			if ended {
				break
			}
		}
	}
}

// P25.5 (P5): if nothing else is called, it is over behind as many steps as there were things; none has more rows than ahead of it, and one that was moved as many as its holes break it in.
func TestProgress(t *testing.T) {
	r := dice(1123581321)
	moved, short := 0, 0
	for run := range 150 {
		m := newOrdering(t, &r)
		for range 10 + r.below(150) {
			m.call()
			m.fills()
			if r.below(3) == 0 {
				m.moves()
			}
			if r.below(8) == 0 {
				m.sync().Sync()
			}
		}
		m.sync().Sync()
		was := told(t, m.x)
		rows, to := map[int]int{}, map[int]int{}
		things := m.x.Mover().Things()
		for _, slot := range things {
			_, ns, many, _ := m.layout(slot)
			rows[slot], to[slot] = many, pieces(ns)
		}
		answers(t, "Begin", m.k.Begin(), api.OK)
		for n := range things {
			over, e := m.k.Step()
			if over != (n == len(things)-1) || e != api.OK {
				t.Errorf("Step %d of %d: %t, %d", n, len(things), over, e)
			}
		}
		for _, slot := range things {
			switch _, _, many, _ := m.layout(slot); {
			case many == to[slot] && many < rows[slot]:
				moved++
			case many == rows[slot] && many > to[slot]:
				short++
			case many != rows[slot]:
				t.Errorf("of %d rows there are %d, and %d pieces", rows[slot], many, to[slot])
			}
		}
		if now := told(t, m.x); now != was || slices.Compare(things, m.x.Mover().Things()) != 0 {
			t.Error("it tells another tree")
		}
		m.now = m.look()
		m.whole()
		if t.Failed() {
			t.Fatalf("run %d:\n%s", run, strings.Join(m.log, "\n"))
		}
	}
	if moved < 50 || short < 20 {
		t.Errorf("%d were moved, for %d there was no room", moved, short)
	}
}

// P25.5: things that are put in order again and again, with all made safe between.
func TestAgain(t *testing.T) {
	r := dice(55555)
	for range 15 {
		m := newOrdering(t, &r)
		for range 150 {
			m.call()
		}
		m.sync().Sync()
		for range 3 {
			m.quietly(m.begins)
			for m.queue != nil {
				m.quietly(m.steps)
			}
			m.sync().Sync()
		}
		m.whole()
		if t.Failed() {
			t.Fatal(strings.Join(m.log, "\n"))
		}
	}
}
