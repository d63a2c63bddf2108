package shrink_test

import (
	"testing"

	"levee/api"
	"levee/disk"
	"levee/fs"
	"levee/geo"
	"levee/grow"
	"levee/imove"
	"levee/inode"
	"levee/move"
	"levee/shrink"
	"levee/sync"
	"levee/vol"
)

// damaged is a volume of which some bytes were written over: of inodes, of names and of entries.
func damaged(t *testing.T, r *dice) *disk.Disk {
	t.Helper()
	m := newMachine(t, r, 200, api.Geo{Group: 40, Inodes: 12, Groups: 3})
	for range 120 {
		m.call()
		m.quietly(m.moves)
	}
	m.sync().Sync()
	past := geo.Size(m.volume().Geo())
	for range 1 + r.below(12) {
		b := 2 + r.below(past-2)
		kind, _ := geo.Kind(m.volume().Geo(), b)
		data, _ := m.d.Read(b)
		switch {
		case kind == geo.Header:
			continue
		case kind == geo.Table && r.below(2) == 0: // an inode that can be, of other blocks and sizes
			place := r.below(api.PerTable)
			i, e := inode.Read(data, place)
			if e != api.OK || i.Kind == api.Free {
				continue
			}
			i.P[r.below(api.Direct)], i.In, i.Din = r.below(past), r.below(past), r.below(past)
			i.Size, i.Links = int64(r.below(api.MaxFile)*api.Block), r.below(1001)
			if lay, e := inode.Lay(data, place, i); e == api.OK {
				data = lay
			}
		case r.below(3) == 0:
			data, _ = m.d.Read(2 + r.below(past-2))
		default:
			for range 1 + r.below(6) {
				data[r.below(api.Block)] = byte(r.below(256))
			}
		}
		m.d.Write(b, data)
	}
	m.d.Flush()
	return m.d
}

// P6: whatever bytes stand on a volume that is mounted, every call ends, and none panics; and it has a shape that it can be mounted with.
func TestDamaged(t *testing.T) {
	r := dice(86028121)
	mounted, smaller := 0, 0
	for range 60 {
		d := damaged(t, &r)
		f, e := fs.Mount(d)
		if e != api.OK {
			continue
		}
		mounted++
		x := imove.New(move.New(sync.New(f)))
		s, g := shrink.New(x), grow.New(x)
		for range 3 {
			s.Begin(r.below(4))
			for range r.below(300) {
				over, e := s.Step()
				if over && e == api.OK {
					smaller++
				}
				if over != (s.Target() == 0) && e != api.ErrState {
					t.Errorf("Step: %t, %d, and the target is %d", over, e, s.Target())
				}
				s.Left()
				if r.below(10) == 0 {
					f.Create("/" + string(rune('a'+r.below(12))))
					f.Unlink("/" + string(rune('a'+r.below(12))))
				}
			}
			s.Stop()
			g.Begin(r.below(6))
			for range r.below(3) {
				g.Step()
			}
			for k := range api.MaxGroups {
				if f.Nodes().Tree().Dirs().Files().Alloc().Frozen(k) {
					t.Errorf("the group %d is frozen", k)
				}
			}
		}
		x.Mover().Sync().Sync()
		if v, e := vol.Mount(d); e != api.OK || v.Geo() != f.Nodes().Tree().Dirs().Files().Alloc().Vol().Geo() {
			t.Errorf("Mount: %v, %d", v.Geo(), e)
		}
	}
	if mounted < 20 || smaller < 20 {
		t.Errorf("%d were mounted, %d got smaller", mounted, smaller)
	}
}
