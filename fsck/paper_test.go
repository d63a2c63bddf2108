package fsck_test

import (
	"encoding/binary"
	"fmt"
	"testing"

	"levee/api"
	"levee/dirent"
	"levee/disk"
	"levee/geo"
	"levee/inode"
	"levee/vol"
)

// paper is a disk whose bytes are written over.
type paper struct {
	t     *testing.T
	bytes []byte
	geo   api.Geo
}

func paperOf(t *testing.T, d *disk.Disk, g api.Geo) *paper {
	return &paper{t: t, bytes: d.Bytes(), geo: g}
}

func (p *paper) disk() *disk.Disk {
	p.t.Helper()
	d, e := disk.Load(p.bytes)
	calls(p.t, e)
	return d
}

// at are a block's bytes, where they stand.
func (p *paper) at(b int) []byte { return p.bytes[b*api.Block : (b+1)*api.Block] }

func (p *paper) thing(slot int) api.Inode {
	p.t.Helper()
	b, place, e := geo.Place(p.geo, slot)
	calls(p.t, e)
	i, e := inode.Read(p.at(b), place)
	calls(p.t, e)
	return i
}

// inode makes another inode of one.
func (p *paper) inode(slot int, turn func(i *api.Inode)) {
	p.t.Helper()
	i := p.thing(slot)
	turn(&i)
	p.put(slot, i)
}

// put gives a slot an inode.
func (p *paper) put(slot int, i api.Inode) {
	p.t.Helper()
	b, place, e := geo.Place(p.geo, slot)
	calls(p.t, e)
	whole, e := inode.Lay(p.at(b), place, i)
	calls(p.t, e)
	copy(p.at(b), whole)
}

// entry lays an entry at a place of a block.
func (p *paper) entry(b, place int, e api.Entry) {
	p.t.Helper()
	whole, errno := dirent.Lay(p.at(b), place, e)
	calls(p.t, errno)
	copy(p.at(b), whole)
}

// call gives a block a name at a place of a block of names.
func (p *paper) call(names, at int, name uint32) {
	binary.LittleEndian.PutUint32(p.at(names)[4*at:], name)
}

// slot is one that has a thing, mostly.
func (p *paper) slot(r *dice) int {
	for range 20 {
		slot := r.below(geo.Slots(p.geo))
		b, place, _ := geo.Place(p.geo, slot)
		if i, e := inode.Read(p.at(b), place); e == api.OK && i.Kind != api.Free {
			return slot
		}
	}
	return r.below(geo.Slots(p.geo))
}

// data is a data block.
func (p *paper) data(r *dice) int {
	first, past := geo.Range(p.geo, r.below(p.geo.Groups))
	return first + r.below(past-first)
}

// list is a block of some directory.
func (p *paper) list(r *dice) int {
	for range 40 {
		slot := p.slot(r)
		b, place, _ := geo.Place(p.geo, slot)
		i, e := inode.Read(p.at(b), place)
		if kind, _ := geo.Kind(p.geo, i.P[0]); e == api.OK && i.Kind == api.Dir && kind == geo.Data {
			return i.P[0]
		}
	}
	return p.data(r)
}

// field is where an inode has a name: of P, and behind them of In and Din.
func field(i *api.Inode, at int) *int {
	switch at {
	case api.Direct:
		return &i.In
	case api.Direct + 1:
		return &i.Din
	}
	return &i.P[at]
}

// spoiled writes over something, mostly by what can be.
func (p *paper) spoiled(r *dice) {
	switch r.below(12) {
	case 0:
		p.bytes[256*2+r.below(len(p.bytes)-256*2)] = byte(r.below(256))
	case 1:
		p.at(p.data(r))[r.below(256)] ^= 1 << r.below(8)
	case 2, 3:
		p.spoiledInode(r)
	case 4:
		p.twin(r)
	case 5, 6, 7:
		p.spoiledEntry(r)
	case 8, 9:
		p.more(r)
	case 10:
		b, place, _ := geo.Place(p.geo, p.slot(r))
		i, e := inode.Read(p.at(b), place)
		if kind, _ := geo.Kind(p.geo, i.In); e == api.OK && kind == geo.Data {
			p.call(i.In, r.below(64), uint32(r.below(2)<<r.below(32)|p.data(r)))
		}
	default:
		copy(p.at(p.data(r)), p.at(p.data(r)))
	}
}

// spoiledInode makes another inode of some thing's.
func (p *paper) spoiledInode(r *dice) {
	b, place, _ := geo.Place(p.geo, p.slot(r))
	i, e := inode.Read(p.at(b), place)
	if e != api.OK {
		return
	}
	switch r.below(7) {
	case 0:
		i.Links = r.below(5)
	case 1:
		i.Size = max(i.Size+int64(r.below(3)-1)*int64(1+r.below(300)), 0)
	case 2:
		i.Size = int64(r.below(api.MaxFile * api.Block))
	case 3:
		*field(&i, r.below(8)) = r.below(geo.Size(p.geo) + 9)
	case 4:
		*field(&i, r.below(8)) = p.data(r)
	case 5:
		i.Kind = r.below(4)
	default:
		i.Id = int64(1 + r.below(9))
	}
	if i.Kind == api.Dir {
		i.Size = i.Size / 256 * 256
	}
	if whole, e := inode.Lay(p.at(b), place, i); e == api.OK {
		copy(p.at(b), whole)
	}
}

// twin lets a thing stand in another slot, too.
func (p *paper) twin(r *dice) {
	from, fromPlace, _ := geo.Place(p.geo, p.slot(r))
	to, place, _ := geo.Place(p.geo, r.below(geo.Slots(p.geo)))
	copy(p.at(to)[64*place:64*place+64], p.at(from)[64*fromPlace:64*fromPlace+64])
}

// spoiledEntry makes another entry of one.
func (p *paper) spoiledEntry(r *dice) {
	b, place := p.list(r), r.below(api.PerDir)
	e, errno := dirent.Read(p.at(b), place)
	if errno != api.OK || e.Slot == 0 {
		return
	}
	switch r.below(6) {
	case 0:
		e = api.Entry{}
	case 1:
		e.Slot = p.slot(r)
	case 2:
		e.Slot = 1 + r.below(geo.Slots(p.geo)+3)
	case 3, 4:
		e.Leaving = !e.Leaving
	default:
		e.Name = string(rune('a' + r.below(5)))
	}
	if whole, errno := dirent.Lay(p.at(b), place, e); errno == api.OK {
		copy(p.at(b), whole)
	}
}

// more adds an entry.
func (p *paper) more(r *dice) {
	b := p.list(r)
	e := api.Entry{Slot: p.slot(r), Leaving: r.below(2) == 0, Name: string(rune('a' + r.below(9)))}
	if place := dirent.Room(p.at(b)); place >= 0 && e.Slot > 0 {
		p.entry(b, place, e)
	}
}

// inodes fills all slots of a volume with things that can be, with any names, whose blocks are full of entries, or of names.
func inodes(p *paper, r *dice) {
	for slot := 1; slot < geo.Slots(p.geo); slot++ {
		i := api.Inode{Kind: 1 + r.below(3), Links: r.below(9), Size: 255, Id: int64(1 + r.below(200))}
		if slot == vol.Root || r.below(2) == 0 {
			i.Kind = api.Dir
		}
		if i.Kind != api.Link {
			i.Size = int64(r.below(api.MaxFile+1)) * api.Block
		}
		for at := range 8 {
			*field(&i, at) = p.data(r)
		}
		p.put(slot, i)
	}
	for b := range geo.Size(p.geo) {
		if kind, _ := geo.Kind(p.geo, b); kind != geo.Data {
			continue
		}
		if r.below(3) == 0 {
			for at := range 64 {
				p.call(b, at, uint32(p.data(r)))
			}
			continue
		}
		for place := range api.PerDir {
			p.entry(b, place, api.Entry{Slot: 1 + r.below(min(geo.Slots(p.geo), 1023)), Leaving: r.below(3) == 0, Name: fmt.Sprint(r.below(30))})
		}
	}
}
