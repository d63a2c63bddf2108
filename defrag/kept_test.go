package defrag_test

import (
	"slices"
	"testing"

	"levee/api"
	"levee/dirent"
	"levee/disk"
	"levee/fs"
	"levee/geo"
	"levee/inode"
	"levee/ptr"
	"levee/vol"
)

// seen is a thing, as it is found.
type seen struct {
	kind  int
	size  int64
	names map[string]int64 // of a directory: the numbers of what they name
	bytes []byte           // of a file or a link
}

// keeper finds what is kept of a volume behind a crash, by the words of chapter 27.
type keeper struct {
	t      *testing.T
	v      *vol.Vol
	inodes map[int]api.Inode
	owned  map[int]bool        // blocks
	blocks map[int]map[int]int // by slot: of its n the blocks
	order  []int               // the slots that are kept
	slots  map[int64]int       // by number, the slot in which it is kept
	links  map[int]int
	names  map[int]map[string]int
	late   []entry
}

// entry is one of a directory's slot.
type entry struct {
	in int
	api.Entry
}

// found answers all that is kept of a disk, by numbers.
func found(t *testing.T, d *disk.Disk) map[int64]seen {
	t.Helper()
	f, e := fs.Mount(d)
	if e != api.OK {
		t.Fatal("Mount", e)
	}
	v := f.Nodes().Tree().Dirs().Files().Alloc().Vol()
	k := &keeper{t: t, v: v, inodes: map[int]api.Inode{}, owned: map[int]bool{}, blocks: map[int]map[int]int{}, slots: map[int64]int{}, links: map[int]int{}, names: map[int]map[string]int{}}
	for slot := 1; slot < geo.Slots(v.Geo()); slot++ {
		if i, e := v.Inode(slot); e == api.OK && i.Kind != api.Free {
			k.inodes[slot] = i
		}
	}
	k.keep(vol.Root)
	for turn := 0; turn < len(k.order) || len(k.late) > 0; turn++ {
		if turn < len(k.order) {
			k.entries(k.order[turn])
			continue
		}
		turn--
		e := k.late[0]
		k.late = k.late[1:]
		if _, kept := k.slots[k.inodes[e.Slot].Id]; !kept {
			k.enter(e)
		}
	}
	return k.all()
}

// keep keeps a thing, with those of its blocks that no other one owns.
func (k *keeper) keep(slot int) {
	k.order = append(k.order, slot)
	i := k.inodes[slot]
	k.slots[i.Id] = slot
	k.blocks[slot] = map[int]int{}
	for n, b := range i.P {
		k.own(slot, b, n, 0)
	}
	k.own(slot, i.In, api.Direct, 1)
	k.own(slot, i.Din, api.Direct+api.Ptrs, 2)
}

// own lets a block be a thing's, and all that it names.
func (k *keeper) own(slot, b, n, deep int) {
	kind, _ := geo.Kind(k.v.Geo(), b)
	if kind != geo.Data || n >= inode.Blocks(k.inodes[slot]) || k.owned[b] {
		return
	}
	k.owned[b] = true
	if deep == 0 {
		k.blocks[slot][n] = b
		return
	}
	names, _ := ptr.Names(k.data(b))
	step := []int{0, 1, api.Ptrs}[deep]
	for at, b := range names {
		k.own(slot, b, n+at*step, deep-1)
	}
}

func (k *keeper) data(b int) []byte {
	data, _ := k.v.Data(b)
	return data
}

// entries is a directory's turn.
func (k *keeper) entries(slot int) {
	if k.inodes[slot].Kind != api.Dir {
		return
	}
	k.names[slot] = map[string]int{}
	for n := range inode.Blocks(k.inodes[slot]) {
		b := k.blocks[slot][n]
		if b == 0 {
			continue
		}
		list, _, _ := dirent.List(k.data(b))
		for _, e := range list {
			if e.Leaving && k.inodes[e.Slot].Kind == api.Dir {
				k.late = append(k.late, entry{slot, e})
			} else {
				k.enter(entry{slot, e})
			}
		}
	}
}

// enter is an entry that stays, if it can.
func (k *keeper) enter(e entry) {
	i, there := k.inodes[e.Slot]
	_, twice := k.names[e.in][e.Name]
	if !there || e.Slot < 2 || twice {
		return
	}
	at, kept := k.slots[i.Id]
	if kept {
		if i.Kind == api.Dir || k.inodes[at].Kind != i.Kind || k.links[at] >= api.MaxLinks {
			return
		}
	} else {
		k.keep(e.Slot)
		at = e.Slot
	}
	k.names[e.in][e.Name] = at
	k.links[at]++
}

// all tells what is kept.
func (k *keeper) all() map[int64]seen {
	all := map[int64]seen{}
	for _, slot := range k.order {
		i := k.inodes[slot]
		s := seen{kind: i.Kind, size: i.Size, names: map[string]int64{}}
		for name, of := range k.names[slot] {
			s.names[name] = k.inodes[of].Id
		}
		for n := range inode.Blocks(i) {
			if b := k.blocks[slot][n]; i.Kind != api.Dir && b != 0 {
				s.bytes = append(s.bytes, k.data(b)...)
			} else if i.Kind != api.Dir {
				s.bytes = append(s.bytes, make([]byte, api.Block)...)
			}
		}
		if i.Kind != api.Dir {
			s.bytes = slices.Clone(s.bytes[:i.Size])
		}
		all[i.Id] = s
	}
	return all
}
