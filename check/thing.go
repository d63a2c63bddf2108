package check

import (
	"levee/api"
	"levee/dirent"
	"levee/geo"
	"levee/inode"
	"levee/num"
	"levee/vol"
)

// The places of names in an inode behind those of P: how many names more there are on the way from each to a block of bytes.
const (
	inDeep  = 1
	dinDeep = 2
)

// wide is how many bytes a name in a block of names has.
const wide = api.Block / api.Ptrs

// look tells whether the n-th block of bytes of a thing is as it must be.
type look func(n int, data []byte) bool

// owned tells whether each thing's blocks, and what stands in them, are as they must be.
func (v *volume) owned() bool {
	for slot := range v.things {
		if v.there(slot) && !v.owns(slot) {
			return false
		}
	}
	return true
}

// owns tells whether one thing's are.
func (v *volume) owns(slot int) bool {
	i := v.things[slot]
	own := v.owning(inode.Blocks(i), v.looking(slot))
	for n, b := range i.P {
		if !own(b, n, 0) {
			return false
		}
	}
	return own(i.In, api.Direct, inDeep) && own(i.Din, api.Direct+api.Ptrs, dinDeep)
}

// owning answers what goes through the blocks of a thing that has so many: by the name of a block, the first n that one comes to by it, and over how many names more; it tells whether all that it met can be. It ends with the first that can not, so that no block is met again and again.
func (v *volume) owning(past int, right look) func(b, n, deep int) bool {
	var own func(b, n, deep int) bool
	own = func(b, n, deep int) bool {
		switch {
		case b == 0:
			return true
		case n >= past || !v.first(b):
			return false
		case deep == 0:
			return right(n, v.read(b))
		}
		for at, name := range names(v.read(b)) {
			if !own(name, n+at*each(deep), deep-1) {
				return false
			}
		}
		return true
	}
	return own
}

// first tells whether a block is a data block, and is named for the first time.
func (v *volume) first(b int) bool {
	v.blocks[b]++
	kind, _ := geo.Kind(v.geo, b)
	return kind == geo.Data && v.blocks[b] == 1
}

// each is how many blocks of bytes one comes to by each name of a block of names.
func each(deep int) int {
	if deep == dinDeep {
		return api.Ptrs
	}
	return 1
}

// names are those of a block of names, all four bytes of each.
func names(b []byte) [api.Ptrs]int {
	var all [api.Ptrs]int
	for at := range all {
		all[at] = int(num.Get(b[at*wide : (at+1)*wide]))
	}
	return all
}

// looking answers what looks at a thing's blocks of bytes: a directory's have entries, all others nothing behind the Size.
func (v *volume) looking(slot int) look {
	i := v.things[slot]
	if i.Kind == api.Dir {
		met := map[string]int{}
		return func(_ int, data []byte) bool { return v.lists(slot, data, met) }
	}
	return func(n int, data []byte) bool {
		past := min(i.Size-int64(n)*api.Block, api.Block)
		return num.Zero(data[past:])
	}
}

// lists tells whether a directory's block has entries that can be, and nothing else; met are the names that the directory has had.
func (v *volume) lists(dir int, data []byte, met map[string]int) bool {
	for place := range api.PerDir {
		e, errno := dirent.Read(data, place)
		if errno != api.OK {
			return false
		}
		if e.Slot == 0 {
			continue
		}
		met[e.Name]++
		if e.Leaving || e.Slot <= vol.Root || !v.there(e.Slot) || met[e.Name] > 1 {
			return false
		}
		v.names[e.Slot]++
		if v.things[e.Slot].Kind == api.Dir {
			v.below[dir] = append(v.below[dir], e.Slot)
		}
	}
	return true
}
