package scan

import (
	"levee/api"
	"levee/disk"
	"levee/geo"
	"levee/inode"
	"levee/num"
	"levee/vol"
)

// The places of names in an inode behind those of P: how many names more there are on the way from each to a block of bytes.
const (
	inDeep  = 1
	dinDeep = 2
)

// wide is how many bytes a name in a block of names has.
const wide = api.Block / api.Ptrs

// walk is a scan under way.
type walk struct {
	*Scan
	disk  *disk.Disk
	there []api.Inode   // by slot: the things there are, as they stand on the disk; a free one is none
	slots map[int64]int // by number: the slot of the thing that is kept
	lists map[int][]int // by slot of a directory: its blocks of bytes
	waits []spot        // of entries that wait until all directories have had their turn
}

// find finds the things there are. There is a root in any case.
func (w *walk) find() {
	w.there = make([]api.Inode, geo.Slots(w.geo))
	for slot := vol.Root; slot < len(w.there); slot++ {
		w.there[slot] = w.inode(slot)
	}
	if w.there[vol.Root].Kind != api.Dir {
		w.there[vol.Root] = api.Inode{Kind: api.Dir, Links: 1, Id: 1}
	}
}

// inode answers the inode of a slot; a free one, if it can not be.
func (w *walk) inode(slot int) api.Inode {
	w.steps++
	b, place, _ := geo.Place(w.geo, slot)
	data, _ := w.disk.Read(b)
	i, _ := inode.Read(data, place)
	return i
}

// has tells whether an entry may name a slot.
func (w *walk) has(slot int) bool {
	return slot > vol.Root && slot < len(w.there) && w.there[slot].Kind != api.Free
}

// keep keeps a thing, with those of its blocks that no other one owns. Nothing names it yet.
func (w *walk) keep(slot int) {
	i := w.there[slot]
	w.kept = append(w.kept, slot)
	w.slots[i.Id] = slot
	o := &owner{walk: w, slot: slot, thing: i, past: inode.Blocks(i)}
	for n, b := range i.P {
		i.P[n] = o.own(b, n, 0)
	}
	i.In = o.own(i.In, api.Direct, inDeep)
	i.Din = o.own(i.Din, api.Direct+api.Ptrs, dinDeep)
	i.Links = 0
	w.things[slot] = i
}

// named counts a name more of a thing that is kept.
func (w *walk) named(slot int) {
	i := w.things[slot]
	i.Links++
	w.things[slot] = i
}

// lose finds the things that are not kept.
func (w *walk) lose() {
	for slot, i := range w.there {
		if _, kept := w.things[slot]; !kept && i.Kind != api.Free {
			w.lost = append(w.lost, slot)
		}
	}
}

// owner is a thing that comes to own its blocks.
type owner struct {
	*walk
	slot  int
	thing api.Inode
	past  int // how many blocks of bytes it may have
}

// own answers what becomes of a name of the thing, by which one comes to the n-th block of bytes at first, over so many names more: 0, if it can not be, or something owns that block already.
func (o *owner) own(b, n, deep int) int {
	o.steps++
	if n >= o.past || !o.free(b) {
		return 0
	}
	data, _ := o.disk.Read(b)
	o.owners[b], o.blocks[b] = o.slot, data
	switch {
	case deep > 0:
		o.through(data, n, deep)
	case o.thing.Kind == api.Dir:
		o.lists[o.slot] = append(o.lists[o.slot], b)
	default:
		clear(data[min(o.thing.Size-int64(n)*api.Block, api.Block):])
	}
	return b
}

// free tells whether a block is a data block that nothing owns.
func (o *owner) free(b int) bool {
	kind, _ := geo.Kind(o.geo, b)
	_, owned := o.owners[b]
	return kind == geo.Data && !owned
}

// through goes through a block of names, all four bytes of each, where they stand.
func (o *owner) through(data []byte, n, deep int) {
	for at := range api.Ptrs {
		name := data[at*wide : (at+1)*wide]
		b := o.own(int(num.Get(name)), n+at*each(deep), deep-1)
		num.Put(name, uint64(b))
	}
}

// each is how many blocks of bytes one comes to by each name of a block of names.
func each(deep int) int {
	if deep == dinDeep {
		return api.Ptrs
	}
	return 1
}
