package fsck_test

import (
	"strings"
	"testing"

	"levee/api"
	"levee/check"
	"levee/disk"
	"levee/fs"
	"levee/fsck"
	"levee/imove"
	"levee/move"
	"levee/sync"
)

// repairs puts a disk's volume right, and holds that it is whole then, that all is safe, and that a second time changes nothing.
func repairs(t *testing.T, d *disk.Disk) fsck.Report {
	t.Helper()
	r, e := fsck.Repair(d)
	if e != api.OK || len(d.Open()) > 0 {
		t.Errorf("Repair: %v, %d; open are %v", r, e, d.Open())
	}
	if w, e := check.Whole(d); e != api.OK || w.Dirs+w.Files+w.Links != r.Kept {
		t.Errorf("Whole: %v, %d, of %v", w, e, r)
	}
	again, e := fsck.Repair(d)
	if e != api.OK || again != (fsck.Report{Kept: r.Kept}) {
		t.Errorf("Repair again: %v, %d", again, e)
	}
	return r
}

// found answers all that stands on a volume that was put right, by numbers.
func found(t *testing.T, d *disk.Disk) map[int64]seen {
	t.Helper()
	f, e := fs.Mount(d)
	if e != api.OK {
		t.Fatal("Mount", e)
	}
	return look(imove.New(move.New(sync.New(f))))
}

// shaken is a machine of some shape, on a disk that has more room, mostly.
func shaken(t *testing.T, r *dice) *machine {
	t.Helper()
	g := api.Geo{Group: 20 + r.below(24), Inodes: []int{4, 8, 12}[r.below(3)], Groups: 1 + r.below(3)}
	return newMachine(t, r, 2+g.Group*(g.Groups+r.below(3))+r.below(16), g)
}

// step makes some call.
func (m *machine) step() {
	m.t.Helper()
	switch k := m.r.below(100); {
	case k < 45:
		m.call()
	case k < 62:
		m.does(m.makes)
	case k < 72:
		m.does(m.moves)
	case k < 84:
		m.does(m.sizes)
	default:
		m.does(m.orders)
	}
}

// dies lets the power of the machine itself go; it is put right, and up again.
func (m *machine) dies() {
	m.t.Helper()
	m.lost(m.d)
	m.righted(m.d)
	m.formed(m.d)
	m.held(m.d)
	m.log = append(m.log, "the power goes")
	m.mount()
}

// P28.4, P28.5 (P2, P3): any calls, things moved, put in order and the volume getting larger and smaller between; the power goes behind each, and sometimes for good.
func TestAnyCalls(t *testing.T) {
	r := dice(2463534242)
	calls := map[string]int{}
	for run := range 40 {
		m := shaken(t, &r)
		for step := range 250 {
			m.step()
			m.crash()
			m.crash()
			if r.below(60) == 0 {
				m.dies()
			}
			if t.Failed() {
				t.Fatalf("run %d, step %d:\n%s", run, step, strings.Join(m.log, "\n"))
			}
		}
		for what, n := range m.calls {
			calls[what] += n
		}
	}
	often(t, calls, "create 0", "mkdir 0", "link 0", "unlink 0", "rmdir 0", "rename 0", "write 0", "truncate 0", "create 26", "Write 0", "Flush 0", "Fsync 0", "Sync 0", "Block 0", "Move 0", "grow 0", "larger 0", "shrink 0", "smaller 0", "order 0", "ordered 0")
}

// P28.4, P28.5 (P2, P3): any calls behind a Sync, and the disk stopped at each of its writes and flushes.
func TestEachStop(t *testing.T) {
	calls := map[string]int{}
	for seed := range 8 {
		for stop := 0; ; stop++ {
			r := dice(31337 + 17*seed)
			m := shaken(t, &r)
			for range 40 {
				m.call()
				m.does(m.moves)
			}
			m.sync().Sync()
			m.safe()
			m.d.Stop(stop)
			for k := 0; k < 60 && !m.d.Stopped(); k++ {
				if m.step(); seed%2 > 0 {
					m.does(m.sizes)
				}
			}
			ended := !m.d.Stopped()
			for range 4 {
				m.crash()
			}
			if t.Failed() {
				t.Fatalf("seed %d, stopped at %d:\n%s", seed, stop, strings.Join(m.log, "\n"))
			}
			for what, n := range m.calls {
				calls[what] += n
			}
			if ended {
				break
			}
		}
	}
	often(t, calls, "new shape", "Move 0", "smaller 0", "larger 0", "ordered 0")
}
