package move_test

import (
	"testing"

	"levee/api"
	"levee/disk"
	"levee/fs"
	"levee/geo"
	"levee/inode"
	"levee/move"
	"levee/sync"
)

// damaged is a volume of which some bytes were written over: of inodes, of names and of entries.
func damaged(t *testing.T, r *dice) *disk.Disk {
	t.Helper()
	m := newMachine(t, r, api.Geo{Group: 40, Inodes: 16, Groups: 2})
	for range 150 {
		m.call()
	}
	m.s.Sync()
	g := volume(m.v).Geo()
	for range 1 + r.below(12) {
		b := 2 + r.below(m.d.Len()-2)
		kind, _ := geo.Kind(g, b)
		data, _ := m.d.Read(b)
		switch {
		case kind == geo.Header:
			continue
		case kind == geo.Table && r.below(2) == 0: // an inode that can be, of other blocks and sizes
			place := r.below(api.PerTable)
			i, e := inode.Read(data, place)
			if e != api.OK || i.Kind == api.Free {
				continue
			}
			i.P[r.below(api.Direct)], i.In, i.Din = r.below(90), r.below(90), r.below(90)
			i.Size, i.Links = int64(r.below(api.MaxFile)*api.Block), r.below(1001)
			if lay, e := inode.Lay(data, place, i); e == api.OK {
				data = lay
			}
		case r.below(3) == 0:
			data, _ = m.d.Read(2 + r.below(m.d.Len()-2))
		default:
			for range 1 + r.below(6) {
				data[r.below(api.Block)] = byte(r.below(256))
			}
		}
		m.d.Write(b, data)
	}
	m.d.Flush()
	return m.d
}

// P6: whatever bytes stand on a volume that is mounted, every call ends, and none panics.
func TestDamaged(t *testing.T) {
	r := dice(86028121)
	mounted, carried := 0, 0
	for range 60 {
		f, e := fs.Mount(damaged(t, &r))
		if e != api.OK {
			continue
		}
		mounted++
		m := move.New(sync.New(f))
		for range 60 {
			b, near, k := r.below(90), r.below(90), r.below(4)-1
			if some := m.Blocks(k); len(some) > 0 {
				b = some[r.below(len(some))]
			}
			if _, e := m.Block(b, near); e == api.OK {
				carried++
			}
			m.Owner(near)
			m.Slots(k)
			m.Waits(k)
			m.Things()
			switch r.below(4) {
			case 0:
				m.Sync().Write(near)
			case 1:
				m.Sync().Flush()
			}
		}
		if n, e := m.Sync().Sync(); e != api.OK || !m.Sync().Quiet() {
			t.Errorf("Sync: %d, %d", n, e)
		}
	}
	if mounted < 20 || carried < 500 {
		t.Errorf("%d were mounted, %d blocks moved", mounted, carried)
	}
}
