package defrag_test

import (
	"testing"

	"levee/api"
	"levee/defrag"
	"levee/disk"
	"levee/fs"
	"levee/geo"
	"levee/imove"
	"levee/inode"
	"levee/move"
	"levee/sync"
	"levee/vol"
)

// damaged is a volume of which some bytes were written over: of inodes, of names and of entries.
func damaged(t *testing.T, r *dice) *disk.Disk {
	t.Helper()
	m := newMachine(t, r, 200, api.Geo{Group: 64, Inodes: 12, Groups: 3})
	for range 120 {
		m.call()
		m.fills()
		m.moves()
	}
	m.sync().Sync()
	past := geo.Size(m.volume().Geo())
	for range 1 + r.below(12) {
		b := 2 + r.below(past-2)
		kind, _ := geo.Kind(m.volume().Geo(), b)
		data, _ := m.d.Read(b)
		switch {
		case kind == geo.Header:
			continue
		case kind == geo.Table && r.below(2) == 0: // an inode that can be, of other blocks and sizes
			place := r.below(api.PerTable)
			i, e := inode.Read(data, place)
			if e != api.OK || i.Kind == api.Free {
				continue
			}
			i.P[r.below(api.Direct)], i.In, i.Din = r.below(past), r.below(past), r.below(past)
			i.Size, i.Links = int64(r.below(api.MaxFile)*api.Block), r.below(1001)
			if lay, e := inode.Lay(data, place, i); e == api.OK {
				data = lay
			}
		case r.below(3) == 0:
			data, _ = m.d.Read(2 + r.below(past-2))
		default:
			for range 1 + r.below(6) {
				data[r.below(api.Block)] = byte(r.below(256))
			}
		}
		m.d.Write(b, data)
	}
	m.d.Flush()
	return m.d
}

// P6: whatever bytes stand on a volume that is mounted, every call ends, and none panics; and it is over behind as many steps as there were things.
func TestDamaged(t *testing.T) {
	r := dice(86028121)
	mounted, moved := 0, 0
	for range 80 {
		d := damaged(t, &r)
		f, e := fs.Mount(d)
		if e != api.OK {
			continue
		}
		mounted++
		k := defrag.New(imove.New(move.New(sync.New(f))))
		for range 3 {
			for slot := range 40 {
				was, is, e := k.File(slot)
				if e == api.OK && is < was {
					moved++
				}
				if e != api.OK && e != api.ErrSpace && (was != 0 || is != 0) {
					t.Errorf("File: %d, %d, %d", was, is, e)
				}
			}
			things := len(mover(k).Things())
			answers(t, "Begin", k.Begin(), api.OK)
			for n := range things {
				if over, _ := k.Step(); over != (n == things-1) {
					t.Errorf("Step: %t, and %d of %d", over, n, things)
				}
				f.Create("/" + string(rune('a'+r.below(12))))
				f.Unlink("/" + string(rune('a'+r.below(12))))
			}
			mover(k).Sync().Sync()
		}
		if _, e := vol.Mount(d); e != api.OK {
			t.Errorf("Mount: %d", e)
		}
	}
	if mounted < 20 || moved < 20 {
		t.Errorf("%d were mounted, %d moved", mounted, moved)
	}
}

// P6: names that name their own block, and one block at many places.
func TestNamesOfOne(t *testing.T) {
	g := api.Geo{Group: 128, Inodes: 8, Groups: 2}
	for _, many := range []int{1, 2, 7, 64} {
		for _, own := range []bool{false, true} {
			k := mounted(t, formatted(t, geo.Size(g), g))
			first, _ := geo.Range(g, 1)
			placed(t, k, 2, api.File, api.MaxFile*api.Block, first+3, first+1, 0, first+1)
			names := make([]byte, api.Block)
			for n := range many {
				names[4*n] = byte(first + 9)
				if own {
					names[4*n] = byte(first)
				}
			}
			take(t, k, first)
			take(t, k, first+9)
			_, e := volume(k).SetData(first, 0, names)
			calls(t, e)
			_, e = volume(k).SetData(first+9, 0, names)
			calls(t, e)
			i, _ := files(k).Get(2)
			for at := range 3 {
				i.In, i.Din = [3]int{first, 0, first}[at], [3]int{0, first, first}[at]
				_, e = files(k).Put(2, i)
				calls(t, e)
				k.File(2)
				answers(t, "Begin", k.Begin(), api.OK)
				k.Step()
				if over, _ := k.Step(); !over {
					t.Error("it is not over")
				}
			}
			mover(k).Sync().Sync()
		}
	}
}
