package fs

import (
	"slices"
	"strings"

	"levee/api"
	"levee/tree"
)

// Create makes an empty file.
func (f *Fs) Create(path string) api.Errno {
	return f.make(path, api.File)
}

// Mkdir makes an empty directory.
func (f *Fs) Mkdir(path string) api.Errno {
	return f.make(path, api.Dir)
}

// make makes a thing without bytes.
func (f *Fs) make(path string, kind int) api.Errno {
	at, e := f.parent(path)
	if e != api.OK {
		return e
	}
	_, e = f.nodes.Make(at.dir(), at.name, kind, nil)
	return e
}

// Symlink makes a link that is a path, whether that names something or not.
func (f *Fs) Symlink(target, path string) api.Errno {
	at, e := f.parent(path)
	if e != api.OK {
		return e
	}
	if _, _, e := tree.Split(target); e != api.OK {
		return e
	}
	_, e = f.nodes.Make(at.dir(), at.name, api.Link, []byte(target))
	return e
}

// Link gives a thing a name more.
func (f *Fs) Link(old, path string) api.Errno {
	slot, e := f.walk(old, false)
	if e != api.OK {
		return e
	}
	at, e := f.parent(path)
	if e != api.OK {
		return e
	}
	return f.nodes.Join(at.dir(), at.name, slot)
}

// Unlink takes a name of a file, or of a link, away.
func (f *Fs) Unlink(path string) api.Errno {
	at, slot, e := f.named(path)
	if e != api.OK {
		return e
	}
	if f.isDir(slot) {
		return api.ErrIsDir
	}
	return f.nodes.Cut(at.dir(), at.name)
}

// Rmdir takes an empty directory away.
func (f *Fs) Rmdir(path string) api.Errno {
	at, slot, e := f.named(path)
	if e != api.OK {
		return e
	}
	if !f.isDir(slot) {
		return api.ErrNotDir
	}
	return f.nodes.Cut(at.dir(), at.name)
}

// Rename lets a thing have another name in the place of one. Only a directory can stand on the way of a parent, so none but one that would come below itself is found there.
func (f *Fs) Rename(old, path string) api.Errno {
	from, e := f.parent(old)
	if e != api.OK {
		return e
	}
	to, e := f.parent(path)
	if e != api.OK {
		return e
	}
	slot, e := f.find(from)
	if e != api.OK {
		return e
	}
	if slices.Contains(to.way, slot) {
		return api.ErrLoop
	}
	return f.nodes.Shift(from.dir(), from.name, to.dir(), to.name)
}

// Readlink answers the path that a link is.
func (f *Fs) Readlink(path string) (string, api.Errno) {
	slot, e := f.walk(path, false)
	if e != api.OK {
		return "", e
	}
	return f.tree.Target(slot)
}

// Stat tells of what a path names; of a link at its end, or of what that comes to.
func (f *Fs) Stat(path string, through bool) (api.Stat, api.Errno) {
	slot, e := f.walk(path, through)
	if e != api.OK {
		return api.Stat{}, e
	}
	return f.nodes.Stat(slot)
}

// Readdir lists the names in a directory, byte by byte.
func (f *Fs) Readdir(path string) ([]api.Item, api.Errno) {
	slot, e := f.walk(path, true)
	if e != api.OK {
		return nil, e
	}
	list, e := f.dirs.List(slot)
	if e != api.OK {
		return nil, api.ErrNotDir
	}
	items := make([]api.Item, len(list))
	for i, entry := range list {
		s, _ := f.nodes.Stat(entry.Slot)
		items[i] = api.Item{Name: entry.Name, Id: s.Id}
	}
	slices.SortStableFunc(items, func(a, b api.Item) int { return strings.Compare(a.Name, b.Name) })
	return items, api.OK
}
