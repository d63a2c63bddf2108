package grow_test

import (
	"fmt"
	"strings"
	"testing"

	"levee/api"
	"levee/geo"
	"levee/grow"
)

// tells is all that the file system answers, but Free, as a text.
func tells(t *testing.T, g *grow.Grow) string {
	t.Helper()
	return told(t, g.Slots())
}

// growing is a machine whose volume gets larger.
type growing struct {
	*machine
	g *grow.Grow
}

func newGrowing(t *testing.T, r *dice) growing {
	t.Helper()
	of := api.Geo{Group: 24 + r.below(24), Inodes: []int{8, 12, 16}[r.below(3)], Groups: 1 + r.below(2)}
	m := newMachine(t, r, 2+of.Group*(2+r.below(4))+r.below(16), of)
	return growing{machine: m, g: grow.New(m.x)}
}

// refuses is why the volume can not come to have so many groups.
func (m growing) refuses(groups int) api.Errno {
	g := m.volume().Geo()
	has := g.Groups
	g.Groups = groups
	switch {
	case m.g.Target() != 0:
		return api.ErrState
	case groups <= has || !geo.Right(g):
		return api.ErrArg
	case geo.Size(g) > m.d.Len():
		return api.ErrSize
	}
	return api.OK
}

// begins lets the volume come to have some number of groups.
func (m growing) begins() (string, api.Errno) {
	groups := m.r.below(9) - 1
	want := m.refuses(groups)
	target := m.g.Target()
	e := m.g.Begin(groups)
	if want == api.OK {
		target = groups
	}
	if e != want || m.g.Target() != target {
		m.t.Errorf("Begin(%d): %d, not %d; the target is %d, not %d", groups, e, want, m.g.Target(), target)
	}
	return fmt.Sprint("Begin ", groups), e
}

// steps does a step, and holds what is free behind it.
func (m growing) steps() (string, api.Errno) {
	was, gen, target := m.volume().Geo(), m.volume().Gen(), m.g.Target()
	blocks, slots := m.fs().Free()
	over, e := m.g.Step()
	now := m.volume().Geo()
	b, s := m.fs().Free()
	switch {
	case target == 0:
		if over || e != api.ErrState || now != was {
			m.t.Errorf("Step: %t, %d, with nothing under way", over, e)
		}
	case over:
		more := now.Groups - was.Groups
		per := was.Group - 1 - was.Inodes/api.PerTable
		if e != api.OK || now.Groups != target || m.volume().Gen() != gen+1 || m.g.Target() != 0 || b != blocks+more*per || s != slots+more*was.Inodes {
			m.t.Errorf("Step: %d: %v, and %d, %d are free, of %v, %d, %d", e, now, b, s, was, blocks, slots)
		}
		m.shaped()
		m.calls["over"]++
	default:
		if e != api.OK || now != was || m.volume().Gen() != gen || m.g.Target() != target || b != blocks || s != slots {
			m.t.Errorf("Step: %d: %v, and %d, %d are free, of %v, %d, %d", e, now, b, s, was, blocks, slots)
		}
	}
	return fmt.Sprint("Step ", over), e
}

// step makes some call.
func (m growing) step() {
	m.t.Helper()
	switch k := m.r.below(100); {
	case k < 55:
		m.call()
	case k < 75:
		m.quietly(m.makes)
	case k < 85:
		m.quietly(m.moves)
	case k < 92:
		m.quietly(m.begins)
	default:
		m.quietly(m.steps)
	}
}

// P23.2, P23.3 (P1, P2, P3): any calls, the volume getting larger between, and the power gone behind each.
func TestAnyCalls(t *testing.T) {
	r := dice(2463534242)
	calls := map[string]int{}
	for run := range 40 {
		m := newGrowing(t, &r)
		for step := range 200 {
			m.step()
			m.crash()
			m.crash()
			if t.Failed() {
				t.Fatalf("run %d, step %d:\n%s", run, step, strings.Join(m.log, "\n"))
			}
		}
		m.whole()
		for what, n := range m.calls {
			calls[what] += n
		}
	}
	often(t, calls, "create 0", "mkdir 0", "link 0", "unlink 0", "rmdir 0", "rename 0", "write 0", "truncate 0", "Write 0", "Flush 0", "Fsync 0", "Sync 0", "Block 0", "Move 0", "Begin 0", "Begin 1", "Begin 4", "Begin 6", "Step 0", "Step 6", "over")
}

// P23.3 (P2, P3): any calls behind a Sync, and the disk stopped at each of its writes and flushes.
func TestEachStop(t *testing.T) {
	for seed := range 8 {
		for stop := 0; ; stop++ {
			r := dice(31337 + 17*seed)
			m := newGrowing(t, &r)
			for range 30 {
				m.call()
			}
			m.sync().Sync()
			m.safe()
			m.d.Stop(stop)
			for k := 0; k < 60 && !m.d.Stopped(); k++ {
				m.step()
			}
			ended := !m.d.Stopped()
			for range 3 {
				m.crash()
			}
			if t.Failed() {
				t.Fatalf("seed %d, stopped at %d:\n%s", seed, stop, strings.Join(m.log, "\n"))
			}
			if ended {
				break
			}
		}
	}
}
