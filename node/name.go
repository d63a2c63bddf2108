package node

import (
	"levee/api"
	"levee/dirent"
	"levee/ptr"
)

// directory tells why a slot has no directory.
func (n *Nodes) directory(slot int) api.Errno {
	i, e := n.thing(slot)
	if e == api.OK && i.Kind != api.Dir {
		return api.ErrNotDir
	}
	return e
}

// unnamed tells why a directory can not have a name more.
func (n *Nodes) unnamed(dir int, name string) api.Errno {
	if e := n.directory(dir); e != api.OK {
		return e
	}
	if !dirent.Name(name) {
		return api.ErrName
	}
	if _, _, e := n.dirs().Find(dir, name); e == api.OK {
		return api.ErrThere
	}
	return api.OK
}

// free tells whether so many blocks are free.
func (n *Nodes) free(blocks int) bool {
	free, _ := n.files().Alloc().Free()
	return free >= blocks
}

// full tells whether a directory has neither an empty place nor room for a block more. What would be refused by its last step must be known ahead of the first one.
func (n *Nodes) full(dir int) bool {
	i, _ := n.files().Get(dir)
	if ptr.Need(i.Size, api.Block) > 0 {
		return false
	}
	for k := range int(i.Size / api.Block) {
		if b, _ := n.files().Where(dir, k); b == 0 {
			continue
		}
		block, e := n.files().Read(dir, int64(k)*api.Block, api.Block)
		if e == api.OK && dirent.Room(block) >= 0 {
			return false
		}
	}
	return true
}

// makes tells whether a thing of a kind may be made with such bytes.
func makes(kind int, b []byte) bool {
	switch kind {
	case api.File, api.Dir:
		return len(b) == 0
	case api.Link:
		return len(b) >= 1 && len(b) <= api.MaxPath
	}
	return false
}

// Make makes a thing more, by a name in a directory, and answers its slot.
func (n *Nodes) Make(dir int, name string, kind int, b []byte) (int, api.Errno) {
	if n.nowhere() {
		return 0, api.ErrNil
	}
	if !makes(kind, b) {
		return 0, api.ErrArg
	}
	if e := n.unnamed(dir, name); e != api.OK {
		return 0, e
	}
	if n.full(dir) {
		return 0, api.ErrBig
	}
	if _, slots := n.files().Alloc().Free(); slots == 0 || !n.free(Room+ptr.Need(0, len(b))) {
		return 0, api.ErrSpace
	}
	slot, e := n.begin(dir, kind, b)
	if e != api.OK {
		return 0, e
	}
	_, e = n.dirs().Add(dir, name, slot, n.files().Changes(slot)...)
	if e != api.OK {
		return 0, e
	}
	return slot, api.OK
}

// begin puts a new thing into a slot near another one; nothing names it yet.
func (n *Nodes) begin(near, kind int, b []byte) (int, api.Errno) {
	alloc := n.files().Alloc()
	id, e := alloc.Vol().NewId()
	if e != api.OK {
		return 0, e
	}
	slot, taken, e := alloc.Slot(near)
	if e != api.OK {
		return 0, e
	}
	i := api.Inode{Kind: kind, Links: 1, Size: int64(len(b)), Id: id}
	if _, e := n.files().Put(slot, i, taken); e != api.OK {
		return 0, e
	}
	return slot, n.files().Write(slot, 0, b)
}

// Join lets a name more name a slot's thing.
func (n *Nodes) Join(dir int, name string, slot int) api.Errno {
	i, e := n.thing(slot)
	if e != api.OK {
		return e
	}
	if i.Kind == api.Dir {
		return api.ErrIsDir
	}
	if e := n.unnamed(dir, name); e != api.OK {
		return e
	}
	switch {
	case i.Links >= api.MaxLinks:
		return api.ErrLinks
	case n.full(dir):
		return api.ErrBig
	case !n.free(Room):
		return api.ErrSpace
	}
	i.Links++
	if _, e := n.files().Put(slot, i); e != api.OK {
		return e
	}
	_, e = n.dirs().Add(dir, name, slot, n.files().Changes(slot)...)
	return e
}

// Cut takes a name away; its thing goes with the last one.
func (n *Nodes) Cut(dir int, name string) api.Errno {
	slot, _, e := n.dirs().Find(dir, name)
	if e != api.OK {
		return e
	}
	if n.filled(slot) {
		return api.ErrFilled
	}
	gone, e := n.dirs().Remove(dir, name, n.leaves(slot)...)
	if e != api.OK {
		return e
	}
	return n.lose(slot, gone)
}

// filled tells whether a slot has a directory with entries.
func (n *Nodes) filled(slot int) bool {
	list, _ := n.dirs().List(slot)
	return len(list) > 0
}

// leaves lists the changes that must be safe ahead of a name's going from a slot's thing. Of a directory those of itself: a name that was shifted out of it is lost with it, if the new one is not safe. Of any other one those that gave it its other names: as long as it has one, one stands on the disk.
func (n *Nodes) leaves(slot int) []int64 {
	i, e := n.thing(slot)
	switch {
	case e != api.OK:
		return nil
	case i.Kind == api.Dir:
		return n.files().Changes(slot)
	case i.Links > 1:
		return n.above(slot)
	}
	return nil
}

// lose takes a link from a slot's thing, behind the change by which a name went; with the last one it is dropped, if it is not open.
func (n *Nodes) lose(slot int, gone int64) api.Errno {
	i, e := n.thing(slot)
	if e != api.OK {
		return api.OK
	}
	i.Links = max(i.Links-1, 0)
	if i.Links == 0 && n.Opens(slot) == 0 {
		return n.files().Drop(slot, gone)
	}
	_, e = n.files().Put(slot, i, gone)
	return e
}
