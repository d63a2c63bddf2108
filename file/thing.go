package file

import (
	"iter"
	"slices"

	"levee/api"
	"levee/geo"
	"levee/ptr"
)

// The places of names in an inode: those of P, and behind them these two.
const (
	inAt   = api.Direct
	dinAt  = inAt + 1
	behind = dinAt + 1
)

// thing is what stands in a slot, as a call looks at it, or makes another one of it.
type thing struct {
	files *Files
	slot  int
	was   api.Inode
	now   api.Inode // as it comes to be with the call's end
	after []int64   // what must be safe ahead of that
}

// spot is where the name of a block stands: in a block of names, or, if that is 0, in the inode.
type spot struct {
	names int
	at    int
}

// part is a block of a thing, or where one could be.
type part struct {
	spot
	block int // 0, if there is none
	n     int // the first of the thing's blocks of bytes that one comes to by it
	deep  int // over how many names more; 0: it is that block
}

// each is how many blocks of bytes one comes to by each name in a block of names.
func (p part) each() int {
	if p.deep == 2 {
		return api.Ptrs
	}
	return 1
}

// thing answers what stands in a slot, or why there is nothing.
func (f *Files) thing(slot int) (*thing, api.Errno) {
	i, e := f.Get(slot)
	if e != api.OK {
		return nil, e
	}
	if i.Kind == api.Free {
		return nil, api.ErrNone
	}
	return &thing{files: f, slot: slot, was: i, now: i}, api.OK
}

// field is where an inode has the name of a place.
func field(i *api.Inode, at int) *int {
	switch at {
	case inAt:
		return &i.In
	case dinAt:
		return &i.Din
	}
	return &i.P[at]
}

// steps are the places of the names on the way to the n-th block: the first in the inode, each other one in the block of names that one has come to.
func steps(n int) ([]int, api.Errno) {
	w, e := ptr.Of(n)
	if e != api.OK {
		return nil, e
	}
	switch w.Deep {
	case 0:
		return []int{w.A}, api.OK
	case 1:
		return []int{inAt, w.B}, api.OK
	}
	return []int{dinAt, w.B, w.C}, api.OK
}

// real answers b, if it is a data block, else 0: what is none can be no thing's, whatever names it.
func (t *thing) real(b int) int {
	if kind, _ := geo.Kind(t.files.volume().Geo(), b); kind != geo.Data {
		return 0
	}
	return b
}

// block is the bytes of a data block; one that is there is always read.
func (t *thing) block(b int) []byte {
	data, e := t.files.volume().Data(b)
	if e != api.OK {
		return make([]byte, api.Block)
	}
	return data
}

// named answers the block whose name stands at a spot; 0, if none does.
func (t *thing) named(s spot) int {
	if s.names == 0 {
		return t.real(*field(&t.now, s.at))
	}
	names, _ := ptr.Names(t.block(s.names))
	return t.real(names[s.at])
}

// where answers the n-th block; 0, if there is none.
func (t *thing) where(n int) (int, api.Errno) {
	places, e := steps(n)
	if e != api.OK {
		return 0, e
	}
	b := t.named(spot{at: places[0]})
	for _, at := range places[1:] {
		if b == 0 {
			break
		}
		b = t.named(spot{names: b, at: at})
	}
	return b, api.OK
}

// tops goes through the places of the inode, rising; also where it names none.
func (t *thing) tops() iter.Seq[part] {
	return func(yield func(part) bool) {
		for at := range behind {
			p := part{spot: spot{at: at}, n: at}
			switch at {
			case inAt:
				p.deep = 1
			case dinAt:
				p.n, p.deep = inAt+api.Ptrs, 2
			}
			p.block = t.named(p.spot)
			if !yield(p) {
				return
			}
		}
	}
}

// under goes through the places of a block of names, rising; also where it names none. A block of bytes has no places.
func (t *thing) under(p part) iter.Seq[part] {
	return func(yield func(part) bool) {
		if p.block == 0 || p.deep == 0 {
			return
		}
		names, _ := ptr.Names(t.block(p.block))
		for at, b := range names {
			c := part{spot: spot{names: p.block, at: at}, block: t.real(b), n: p.n + at*p.each(), deep: p.deep - 1}
			if !yield(c) {
				return
			}
		}
	}
}

// all goes through the blocks at some places: each one, and then all that one comes to by it.
func (t *thing) all(places iter.Seq[part]) iter.Seq[part] {
	return func(yield func(part) bool) {
		for p := range places {
			if p.block == 0 {
				continue
			}
			if !yield(p) {
				return
			}
			for c := range t.all(t.under(p)) {
				if !yield(c) {
					return
				}
			}
		}
	}
}

// bytes goes through the blocks of bytes, by their n.
func (t *thing) bytes() iter.Seq[part] {
	return func(yield func(part) bool) {
		for p := range t.all(t.tops()) {
			if p.deep == 0 && !yield(p) {
				return
			}
		}
	}
}

// owned lists all blocks, rising.
func (t *thing) owned() []int {
	owned := t.from(t.tops())
	slices.Sort(owned)
	return slices.Compact(owned)
}

// from lists the blocks at some places, and all that one comes to by them.
func (t *thing) from(places iter.Seq[part]) []int {
	var blocks []int
	for p := range t.all(places) {
		blocks = append(blocks, p.block)
	}
	return blocks
}

// piece is those of a thing's bytes that stand in one of its blocks.
type piece struct {
	n    int // which one
	from int // where they begin there
	to   int // and end
	at   int // where they stand among all that are asked for
}

// pieces goes through the blocks in which count bytes stand, from off on.
func pieces(off int64, count int) iter.Seq[piece] {
	return func(yield func(piece) bool) {
		first, last := ptr.Span(off, count)
		at, from := 0, int(off%api.Block)
		for n := first; n <= last; n++ {
			to := min(api.Block, from+count-at)
			if !yield(piece{n: n, from: from, to: to, at: at}) {
				return
			}
			at += to - from
			from = 0
		}
	}
}
