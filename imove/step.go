package imove

import "levee/api"

// step is a part of a move; what it changes is safe behind it.
type step func() api.Errno

// tried does steps one behind the other, as far as none fails.
func tried(steps ...step) api.Errno {
	for _, do := range steps {
		if e := do(); e != api.OK {
			return e
		}
	}
	return api.OK
}

// moving is a thing on its way to another slot.
type moving struct {
	*Slots
	from int
	near int
	to   int // as soon as it stands there
}

// rest makes safe all of the thing that is not. So nothing waits in the old slot's name any more, and a name that went is gone from the disk.
func (m *moving) rest() api.Errno {
	return m.safe(m.files().Changes(m.from)...)
}

// stand lets the thing's inode stand in the new slot, too.
func (m *moving) stand() api.Errno {
	i, e := m.files().Get(m.from)
	if e != api.OK {
		return e
	}
	to, taken, e := m.alloc().Slot(m.near)
	if e != api.OK {
		return e
	}
	m.to = to
	id, e := m.files().Put(to, i, taken)
	if e != api.OK {
		return e
	}
	return m.safe(id)
}

// turns are the steps that let each name of the thing name the new slot.
func (m *moving) turns() []step {
	var turns []step
	for _, n := range m.Names(m.from) {
		turns = append(turns, func() api.Errno { return m.turn(n) })
	}
	return turns
}

// turn lets a name of the thing name the new slot. On a volume that was not put right an entry of the same name may stand ahead of it, which is another thing's and stays so.
func (m *moving) turn(n Name) api.Errno {
	if slot, _, e := m.dirs().Find(n.Dir, n.Name); e != api.OK || slot != m.from {
		return e
	}
	id, e := m.dirs().Turn(n.Dir, n.Name, m.to)
	if e != api.OK {
		return e
	}
	return m.safe(id)
}

// open lets what is open of the old slot be open of the new one.
func (m *moving) open() api.Errno {
	m.nodes().Turn(m.from, m.to)
	return api.OK
}

// leave lets the old slot have no thing, and gives it. The thing's blocks are the new slot's, so none of them is given. A slot that is not taken, on a volume that was not put right, can not be given and need not.
func (m *moving) leave() api.Errno {
	id, e := m.files().Put(m.from, api.Inode{})
	if e != api.OK {
		return e
	}
	m.alloc().FreeSlot(m.from, id)
	return m.safe(id)
}
