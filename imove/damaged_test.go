package imove_test

import (
	"testing"

	"levee/api"
	"levee/dirent"
	"levee/disk"
	"levee/fs"
	"levee/geo"
	"levee/imove"
	"levee/inode"
	"levee/move"
	"levee/sync"
	"levee/vol"
)

// damaged is a volume of which some bytes were written over: of inodes, of names and of entries.
func damaged(t *testing.T, r *dice) *disk.Disk {
	t.Helper()
	m := newMachine(t, r, api.Geo{Group: 40, Inodes: 16, Groups: 2})
	for range 150 {
		m.call()
	}
	m.s.Sync()
	g := volume(m.x).Geo()
	for range 1 + r.below(12) {
		b := 2 + r.below(m.d.Len()-2)
		kind, _ := geo.Kind(g, b)
		data, _ := m.d.Read(b)
		switch {
		case kind == geo.Header:
			continue
		case kind == geo.Table && r.below(2) == 0: // an inode that can be, of other blocks and sizes
			place := r.below(api.PerTable)
			i, e := inode.Read(data, place)
			if e != api.OK || i.Kind == api.Free {
				continue
			}
			i.P[r.below(api.Direct)], i.In, i.Din = r.below(90), r.below(90), r.below(90)
			i.Size, i.Links = int64(r.below(api.MaxFile)*api.Block), r.below(1001)
			if lay, e := inode.Lay(data, place, i); e == api.OK {
				data = lay
			}
		case r.below(3) == 0:
			data, _ = m.d.Read(2 + r.below(m.d.Len()-2))
		default:
			for range 1 + r.below(6) {
				data[r.below(api.Block)] = byte(r.below(256))
			}
		}
		m.d.Write(b, data)
	}
	m.d.Flush()
	return m.d
}

// P6: whatever bytes stand on a volume that is mounted, every call ends, and none panics.
func TestDamaged(t *testing.T) {
	r := dice(86028121)
	mounted, moved := 0, 0
	for range 60 {
		f, e := fs.Mount(damaged(t, &r))
		if e != api.OK {
			continue
		}
		mounted++
		x := imove.New(move.New(sync.New(f)))
		for range 60 {
			at, near := r.below(40)-4, r.below(40)-4
			if some := x.Mover().Things(); r.below(4) > 0 {
				at = some[r.below(len(some))]
			}
			was, _ := files(x).Get(at)
			to, e := x.Move(at, near)
			if now, _ := files(x).Get(to); e == api.OK && now != was || e != api.OK && to != 0 {
				t.Errorf("Move(%d, %d): %d, %d: %v, not %v", at, near, to, e, now, was)
			}
			if e == api.OK {
				moved++
			}
			x.Names(near)
			path := "/" + string(rune('a'+r.below(12)))
			switch r.below(8) {
			case 0:
				x.Mover().Sync().Write(near)
			case 1:
				x.Mover().Sync().Flush()
			case 2:
				f.Create(path)
			case 3:
				f.Rename(path, "/z")
			case 4:
				f.Unlink(path)
			case 5:
				f.Open(path)
			}
		}
		if n, e := x.Mover().Sync().Sync(); e != api.OK || !x.Mover().Sync().Quiet() {
			t.Errorf("Sync: %d, %d", n, e)
		}
	}
	if mounted < 20 || moved < 500 {
		t.Errorf("%d were mounted, %d things moved", mounted, moved)
	}
}

// Of two entries of one name, on a volume that was not put right, the first one is found: moving the second one's thing leaves it to its own.
func TestNameTwice(t *testing.T) {
	d, f, x := fresh(t, shape)
	opened(t, f, "/f", "one")
	opened(t, f, "/g", "two")
	syncs(t, x)
	own, _ := files(x).Owned(vol.Root)
	block, _ := d.Read(own[0])
	block, e := dirent.Lay(block, 1, api.Entry{Slot: 3, Name: "f"})
	answers(t, "Lay", e, api.OK)
	d.Write(own[0], block)
	x = mounted(t, d)
	names(t, x, 3, imove.Name{Dir: 1, Name: "f"})
	if to, e := x.Move(3, 20); to != 21 || e != api.OK {
		t.Errorf("Move: %d, %d", to, e)
	}
	if at := slot(t, x, "/f"); at != 2 {
		t.Errorf("/f is in the slot %d", at)
	}
	if to := moved(t, x, 2, 30); to != 31 || slot(t, x, "/f") != 31 {
		t.Errorf("Move: %d", to)
	}
}
