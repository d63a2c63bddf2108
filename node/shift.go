package node

import (
	"levee/api"
	"levee/dirent"
	"levee/vol"
)

// Shift lets a thing's name be another one, in another directory perhaps, in the place of what that named.
func (n *Nodes) Shift(from int, name string, to int, other string) api.Errno {
	slot, _, e := n.dirs().Find(from, name)
	if e != api.OK {
		return e
	}
	if e := n.directory(to); e != api.OK {
		return e
	}
	if !dirent.Name(other) {
		return api.ErrName
	}
	old, _, e := n.dirs().Find(to, other)
	there := e == api.OK
	if there && old == slot {
		return api.OK
	}
	if there {
		if e := n.yields(old, slot); e != api.OK {
			return e
		}
	} else if n.full(to) {
		return api.ErrBig
	}
	if !n.free(Room) {
		return api.ErrSpace
	}
	named, e := n.rename(from, name, to, other, slot)
	if e != api.OK || !there {
		return e
	}
	return n.lose(old, named)
}

// yields tells why a thing's name can not become another one's.
func (n *Nodes) yields(old, slot int) api.Errno {
	was, is := n.directory(old) == api.OK, n.directory(slot) == api.OK
	switch {
	case is && !was:
		return api.ErrNotDir
	case was && !is:
		return api.ErrIsDir
	case n.filled(old):
		return api.ErrFilled
	}
	return api.OK
}

// rename gives a slot's thing its new name, takes the old one away behind it, and answers the change that named it. One directory at a time has an old name that is Leaving on the disk: if the new name of one stood below another such one, it could not be told which of its names stays.
func (n *Nodes) rename(from int, name string, to int, other string, slot int) (int64, api.Errno) {
	ahead, above := n.files().Changes(slot), n.above(to)
	isDir := n.directory(slot) == api.OK
	if isDir {
		leaving, e := n.dirs().Mark(from, name, true, n.left)
		if e != api.OK {
			return 0, e
		}
		ahead = append(ahead, leaving)
	}
	named, e := n.name(to, other, slot, ahead...)
	if e != api.OK {
		return 0, e
	}
	gone, e := n.dirs().Remove(from, name, append(above, named)...)
	if e != api.OK {
		return 0, e
	}
	if isDir {
		n.left = gone
	}
	return named, n.behind(slot, gone)
}

// name lets a name of a directory name a slot, whether it named another one or none, behind changes.
func (n *Nodes) name(dir int, name string, slot int, after ...int64) (int64, api.Errno) {
	old, _, e := n.dirs().Find(dir, name)
	if e != api.OK {
		return n.dirs().Add(dir, name, slot, after...)
	}
	return n.dirs().Turn(dir, name, slot, append(after, n.leaves(old)...)...)
}

// behind lets all that a slot's thing loses from now on wait for a change by which a name of it went: as long as that stands on the disk the slot must not be another thing's.
func (n *Nodes) behind(slot int, gone int64) api.Errno {
	i, e := n.thing(slot)
	if e != api.OK {
		return api.OK
	}
	_, e = n.files().Put(slot, i, gone)
	return e
}

// above lists the changes, not safe yet, of all directories in which a slot's thing stands, and in which these stand, up to the root: those that gave it, and them, their names are among these.
func (n *Nodes) above(slot int) []int64 {
	var ids []int64
	stands := n.stands()
	met := map[int]struct{}{}
	for left := []int{slot}; len(left) > 0; left = left[1:] {
		for _, dir := range stands[left[0]] {
			if _, again := met[dir]; again {
				continue
			}
			met[dir] = struct{}{}
			ids = append(ids, n.files().Changes(dir)...)
			left = append(left, dir)
		}
	}
	return ids
}

// stands tells of all that one comes to from the root in which directories it stands, by each of its names.
func (n *Nodes) stands() map[int][]int {
	stands := map[int][]int{}
	for left := []int{vol.Root}; len(left) > 0; left = left[1:] {
		at := left[0]
		list, _ := n.dirs().List(at)
		for _, entry := range list {
			if len(stands[entry.Slot]) == 0 && entry.Slot != vol.Root {
				left = append(left, entry.Slot)
			}
			stands[entry.Slot] = append(stands[entry.Slot], at)
		}
	}
	return stands
}
