package file

import (
	"slices"

	"levee/api"
	"levee/geo"
	"levee/inode"
	"levee/ptr"
)

const (
	maxSize = api.MaxFile * api.Block // of the largest thing
	maxLink = api.MaxPath             // a symbolic link's bytes are a path
	wide    = api.Block / api.Ptrs    // bytes of a name in a block of names
)

// Patch makes a change in the n-th block of a slot's thing, behind others.
func (f *Files) Patch(slot, n, from int, b []byte, after ...int64) (int64, api.Errno) {
	t, e := f.thing(slot)
	if e != api.OK {
		return 0, e
	}
	at, e := t.where(n)
	if e != api.OK {
		return 0, e
	}
	if at == 0 {
		return 0, api.ErrNone
	}
	return t.lay(at, from, b, some(after)...)
}

// some are the numbers that are those of changes: 0 is none.
func some(after []int64) []int64 {
	return slices.DeleteFunc(slices.Clone(after), func(id int64) bool { return id == 0 })
}

// Write gives a slot's thing other bytes, from off on.
func (f *Files) Write(slot int, off int64, b []byte) api.Errno {
	t, e := f.thing(slot)
	if e != api.OK {
		return e
	}
	switch {
	case off < 0 || len(b) > api.MaxIO:
		return api.ErrRange
	case off > maxSize-int64(len(b)):
		return api.ErrBig
	case t.now.Kind == api.Link && off > maxLink-int64(len(b)):
		return api.ErrArg
	case len(b) == 0:
		return api.OK
	}
	if free, _ := f.alloc.Free(); free < ptr.Need(off, len(b)) {
		return api.ErrSpace
	}
	if e := t.grow(off + int64(len(b))); e != api.OK {
		return e
	}
	if e := t.write(off, b); e != api.OK {
		return e
	}
	_, e = t.end()
	return e
}

// grow makes the Size at least so much; a directory has whole blocks.
func (t *thing) grow(size int64) api.Errno {
	if t.now.Kind == api.Dir {
		size = (size + api.Block - 1) / api.Block * api.Block
	}
	old := t.now.Size
	if size <= old {
		return api.OK
	}
	t.now.Size = size
	return t.blank(old, size)
}

// blank makes all bytes 0 from one on up to another one. They are so, but behind a crash, or where somebody patched behind the Size.
func (t *thing) blank(from, to int64) api.Errno {
	for p := range t.bytes() {
		start := int64(p.n) * api.Block
		first, last := max(from-start, 0), min(to-start, api.Block)
		if first >= last || zero(t.block(p.block)[first:last]) {
			continue
		}
		if _, e := t.lay(p.block, int(first), make([]byte, last-first)); e != api.OK {
			return e
		}
	}
	return api.OK
}

// zero tells whether all bytes are 0.
func zero(b []byte) bool {
	return !slices.ContainsFunc(b, func(x byte) bool { return x != 0 })
}

// write lays bytes into the blocks that there are, and into new ones where there is none. These are named when all of them are there, so that no block of names comes to stand between them.
func (t *thing) write(off int64, b []byte) api.Errno {
	near := t.near(off)
	var names []func() api.Errno
	for p := range pieces(off, len(b)) {
		bytes := b[p.at : p.at+p.to-p.from]
		at, e := t.where(p.n)
		if e != api.OK {
			return e
		}
		if at != 0 {
			_, e = t.lay(at, p.from, bytes)
		} else {
			whole := make([]byte, api.Block)
			copy(whole[p.from:], bytes)
			var ahead []int64
			at, ahead, e = t.fresh(near, whole)
			names = append(names, func() api.Errno { return t.link(p.n, at, ahead...) })
		}
		if e != api.OK {
			return e
		}
		near = at
	}
	for _, name := range names {
		if e := name(); e != api.OK {
			return e
		}
	}
	return api.OK
}

// near answers the block behind which bytes from off on stand best: the one ahead of theirs; if there is none, the last of the slot's group, behind which comes the first one.
func (t *thing) near(off int64) int {
	if b, _ := t.where(int(off/api.Block) - 1); b != 0 {
		return b
	}
	g := t.files.volume().Geo()
	_, past := geo.Range(g, geo.Of(g, t.slot))
	return past - 1
}

// lay makes a change in a block of the thing's, behind others.
func (t *thing) lay(b, from int, data []byte, after ...int64) (int64, api.Errno) {
	id, e := t.files.volume().SetData(b, from, data, after...)
	if e != api.OK {
		return 0, e
	}
	t.files.keep(t.slot, id)
	t.after = append(t.after, id)
	return id, api.OK
}

// fresh takes a block near another one, and writes it whole, behind others; it answers the changes ahead of which nothing may name it.
func (t *thing) fresh(near int, whole []byte, after ...int64) (int, []int64, api.Errno) {
	b, taken, e := t.files.alloc.Block(near)
	if e != api.OK {
		return 0, nil, e
	}
	written, e := t.lay(b, 0, whole, after...)
	return b, []int64{taken, written}, e
}

// link names a block as the n-th one, behind changes. Blocks of names that are not there on the way to it come to be, and name nothing at first.
func (t *thing) link(n, b int, after ...int64) api.Errno {
	places, e := steps(n)
	if e != api.OK {
		return e
	}
	last := len(places) - 1
	names := 0
	for _, at := range places[:last] {
		s := spot{names: names, at: at}
		names = t.named(s)
		if names != 0 {
			continue
		}
		var ahead []int64
		if names, ahead, e = t.fresh(b, make([]byte, api.Block)); e != api.OK {
			return e
		}
		if e = t.name(s, names, ahead...); e != api.OK {
			return e
		}
	}
	return t.name(spot{names: names, at: places[last]}, b, after...)
}

// name lets a block's name stand at a spot, behind changes: in a block of names by a change of its own, in the inode with the call's end.
func (t *thing) name(s spot, b int, after ...int64) api.Errno {
	if s.names == 0 {
		*field(&t.now, s.at) = b
		t.after = append(t.after, after...)
		return api.OK
	}
	names, e := ptr.Lay(t.block(s.names), s.at, b)
	if e != api.OK {
		return e
	}
	from := s.at * wide
	_, e = t.lay(s.names, from, names[from:from+wide], after...)
	return e
}

// end gives the slot the thing's inode, if it is another one, behind all that the call did, and answers the last of its changes; 0, if it made none.
func (t *thing) end() (int64, api.Errno) {
	if t.now != t.was {
		return t.files.Put(t.slot, t.now, t.after...)
	}
	if len(t.after) == 0 {
		return 0, api.OK
	}
	return t.after[len(t.after)-1], api.OK
}

// give lets blocks be free behind a change. What is not taken, on a volume that was not put right, can not be given and need not.
func (f *Files) give(after int64, blocks ...int) {
	for _, b := range blocks {
		f.alloc.FreeBlock(b, after)
	}
}

// Resize gives a slot's thing another Size.
func (f *Files) Resize(slot int, size int64) api.Errno {
	t, e := f.thing(slot)
	if e != api.OK {
		return e
	}
	switch {
	case size < 0:
		return api.ErrRange
	case size > maxSize:
		return api.ErrBig
	case t.now.Kind == api.Link || t.now.Kind == api.Dir && size%api.Block != 0:
		return api.ErrArg
	}
	from := min(size, t.now.Size)
	t.now.Size = size
	blocks := inode.Blocks(t.now)
	if e := t.blank(from, int64(blocks)*api.Block); e != api.OK {
		return e
	}
	return t.cut(blocks)
}

// cut takes all names away by which one comes to the n-th block, or to none but those behind it, and ends the call.
func (t *thing) cut(n int) api.Errno {
	var gone []int
	for p := range t.tops() {
		if p.n < n {
			if e := t.thin(p, n); e != api.OK {
				return e
			}
			continue
		}
		gone = append(gone, t.from(slices.Values([]part{p}))...)
		*field(&t.now, p.at) = 0
	}
	id, e := t.end()
	if e != api.OK {
		return e
	}
	t.files.give(id, gone...)
	return api.OK
}

// thin cuts a block of names that stays: its last names go. That waits for all changes of the thing, for the block of names, or one on the way to it, may have been carried, and the old one named on the disk still.
func (t *thing) thin(p part, n int) api.Errno {
	stay := api.Ptrs
	var gone []int
	for c := range t.under(p) {
		if c.n < n {
			if e := t.thin(c, n); e != api.OK {
				return e
			}
			continue
		}
		stay = min(stay, c.at)
		gone = append(gone, t.from(slices.Values([]part{c}))...)
	}
	if stay == api.Ptrs || zero(t.block(p.block)[stay*wide:]) {
		return api.OK
	}
	id, e := t.lay(p.block, stay*wide, make([]byte, (api.Ptrs-stay)*wide), t.files.Changes(t.slot)...)
	if e != api.OK {
		return e
	}
	t.files.give(id, gone...)
	return api.OK
}

// Drop lets a slot's thing be no more, behind a change.
func (f *Files) Drop(slot int, after int64) api.Errno {
	t, e := f.thing(slot)
	if e != api.OK {
		return e
	}
	owned := t.owned()
	id, e := f.Put(slot, api.Inode{}, some([]int64{after})...)
	if e != api.OK {
		return e
	}
	f.give(id, owned...)
	f.alloc.FreeSlot(slot, id)
	return api.OK
}

// Move lets the n-th block of a slot's thing be another one, near a block.
func (f *Files) Move(slot, n, near int) (int, api.Errno) {
	b, e := f.Where(slot, n)
	if e != api.OK {
		return 0, e
	}
	return f.Carry(slot, b, near)
}

// Carry lets a block that a slot's thing owns be another one, near a block.
func (f *Files) Carry(slot, b, near int) (int, api.Errno) {
	t, e := f.thing(slot)
	if e != api.OK {
		return 0, e
	}
	for p := range t.all(t.tops()) {
		if p.block == b {
			return t.carry(p, near)
		}
	}
	return 0, api.ErrNone
}

// carry puts another block in the place of one. Its bytes wait for all changes of the thing: they have been in the old one, and must not be safe here ahead of what they wait for there.
func (t *thing) carry(p part, near int) (int, api.Errno) {
	b, ahead, e := t.fresh(near, t.block(p.block), t.files.Changes(t.slot)...)
	if e != api.OK {
		return 0, e
	}
	if e := t.name(p.spot, b, ahead...); e != api.OK {
		return 0, e
	}
	id, e := t.end()
	if e != api.OK {
		return 0, e
	}
	t.files.give(id, p.block)
	return b, api.OK
}
