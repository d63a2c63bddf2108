package sync_test

import (
	"testing"

	"levee/api"
	"levee/disk"
	"levee/fs"
	"levee/geo"
	"levee/inode"
	"levee/sync"
)

// damaged is a volume of which some bytes were written over: of inodes, of names and of entries.
func damaged(t *testing.T, r *dice) *disk.Disk {
	t.Helper()
	m := newMachine(t, r, api.Geo{Group: 40, Inodes: 16, Groups: 2})
	for range 150 {
		m.call()
	}
	m.s.Sync()
	g := volume(m.s).Geo()
	for range 1 + r.below(12) {
		b := 2 + r.below(m.d.Len()-2)
		kind, _ := geo.Kind(g, b)
		data, _ := m.d.Read(b)
		switch {
		case kind == geo.Header:
			continue
		case kind == geo.Table && r.below(2) == 0: // an inode that can be, of other blocks and sizes
			place := r.below(api.PerTable)
			i, e := inode.Read(data, place)
			if e != api.OK || i.Kind == api.Free {
				continue
			}
			i.P[r.below(api.Direct)], i.In, i.Din = r.below(90), r.below(90), r.below(90)
			i.Size, i.Links = int64(r.below(api.MaxFile)*api.Block), r.below(1001)
			if lay, e := inode.Lay(data, place, i); e == api.OK {
				data = lay
			}
		case r.below(3) == 0:
			other, _ := m.d.Read(2 + r.below(m.d.Len()-2))
			data = other
		default:
			for range 1 + r.below(6) {
				data[r.below(api.Block)] = byte(r.below(256))
			}
		}
		m.d.Write(b, data)
	}
	m.d.Flush()
	return m.d
}

// P6: whatever bytes stand on a volume that is mounted, every call ends, and none panics.
func TestDamaged(t *testing.T) {
	r := dice(86028121)
	mounted := 0
	for range 150 {
		d := damaged(t, &r)
		f, e := fs.Mount(d)
		if e != api.OK {
			continue
		}
		mounted++
		s := sync.New(f)
		path := func() string {
			text := ""
			for range 1 + r.below(3) {
				text += "/" + string(rune('a'+r.below(12)))
			}
			return text
		}
		for range 120 {
			a, b, fd := path(), path(), r.below(4)
			switch r.below(16) {
			case 0:
				f.Create(a)
			case 1:
				f.Mkdir(a)
			case 2:
				f.Symlink(b, a)
			case 3:
				f.Link(a, b)
			case 4:
				f.Unlink(a)
			case 5:
				f.Rmdir(a)
			case 6, 7:
				f.Rename(a, b)
			case 8:
				f.Readlink(a)
				f.Stat(a, true)
			case 9:
				f.Readdir(a)
			case 10:
				f.Open(a)
			case 11:
				f.Write(fd, int64(r.below(20000)), make([]byte, r.below(900)))
			case 12:
				f.Truncate(fd, int64(r.below(20000)))
				f.Read(fd, int64(r.below(20000)), 4096)
			case 13:
				f.Close(fd)
			case 14:
				s.Fsync(fd)
				s.Write(r.below(99))
			case 15:
				s.Flush()
			}
		}
		if n, e := s.Sync(); e != api.OK || !s.Quiet() {
			t.Errorf("Sync: %d, %d, Quiet %t", n, e, s.Quiet())
		}
	}
	if mounted < 50 {
		t.Errorf("%d were mounted", mounted)
	}
}
