package vol

import (
	"iter"

	"levee/api"
	"levee/disk"
	"levee/geo"
	"levee/group"
	"levee/inode"
	"levee/push"
	"levee/super"
)

// A new volume's superblock: its generation, and where it stands.
const (
	firstGen   = 1
	firstPlace = firstGen % api.Supers
)

// root is the inode of a new volume's root.
func root() api.Inode {
	return api.Inode{Kind: api.Dir, Links: 1, Id: 1}
}

// fresh goes through the header and the table of group k, each block with the bytes that it has at first.
func fresh(g api.Geo, k int) iter.Seq2[int, []byte] {
	return func(yield func(int, []byte) bool) {
		b, _ := geo.Head(g, k)
		h, _ := group.Fresh(g, k)
		header, _ := group.Put(g, h)
		if !yield(b, header) {
			return
		}
		for i := range geo.Tables(g) {
			at := b + 1 + i
			if !yield(at, table(g, at)) {
				return
			}
		}
	}
}

// table is a table's block at first: nothing, but the root in the one where it stands.
func table(g api.Geo, b int) []byte {
	data := make([]byte, api.Block)
	if at, place, _ := geo.Place(g, Root); at == b {
		data, _ = inode.Lay(data, place, root())
	}
	return data
}

// Format makes a new volume on a disk. No superblock can be chosen till all else is safe.
func Format(d *disk.Disk, g api.Geo) api.Errno {
	if d == nil {
		return api.ErrNil
	}
	first, e := super.Put(super.Super{Gen: firstGen, Geo: g})
	if e != api.OK {
		return e
	}
	if d.Len() < geo.Size(g) {
		return api.ErrSize
	}
	for at := range api.Supers {
		d.Write(at, make([]byte, api.Block))
	}
	d.Flush()
	for k := range g.Groups {
		for b, data := range fresh(g, k) {
			d.Write(b, data)
		}
	}
	d.Flush()
	d.Write(firstPlace, first)
	return d.Flush()
}

// alike tells whether a shape can be, and has groups like the volume's.
func (v *Vol) alike(g api.Geo) bool {
	own := v.Geo()
	own.Groups = g.Groups
	return geo.Right(g) && g == own
}

// Prepare makes the headers and tables of all groups that a larger shape has more, and makes all changes safe.
func (v *Vol) Prepare(g api.Geo) api.Errno {
	if v.absent() {
		return api.ErrNil
	}
	if !v.alike(g) || g.Groups < v.Geo().Groups {
		return api.ErrArg
	}
	if v.store.Len() < geo.Size(g) {
		return api.ErrSize
	}
	for k := v.Geo().Groups; k < g.Groups; k++ {
		for b, data := range fresh(g, k) {
			if _, e := v.store.Patch(b, 0, data); e != api.OK {
				return e
			}
		}
	}
	_, e := push.All(v.store)
	return e
}

// Switch gives the volume another shape. The superblock that held so far is not touched, so that it holds on, if the new one does not come to stand.
func (v *Vol) Switch(g api.Geo) api.Errno {
	if v.absent() {
		return api.ErrNil
	}
	if !v.alike(g) {
		return api.ErrArg
	}
	next, place, e := super.Next(super.Super(v.says), g)
	if e != api.OK {
		return e
	}
	if v.store.Len() < geo.Size(g) {
		return api.ErrSize
	}
	data, e := super.Put(next)
	if e != api.OK {
		return e
	}
	id, e := v.store.Patch(place, 0, data)
	if e != api.OK {
		return e
	}
	if _, e := push.One(v.store, id); e != api.OK {
		return e
	}
	v.says = says(next)
	return api.OK
}
