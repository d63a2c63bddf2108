package sys_test

import (
	"cmp"
	"fmt"
	"slices"
	"strings"

	"levee/api"
	"levee/dirent"
	"levee/ptr"
	"levee/sys"
)

// thing is one of the tree's: a file, a directory or a link.
type thing struct {
	id    int64
	kind  int
	bytes []byte // of a directory none
	size  int64  // of a directory alone
}

// line is one of the tree's list: that in a directory a name names a thing.
type line struct {
	in   *thing
	name string
	of   *thing
}

// tree is a tree of directories, files and links in a list.
type tree struct {
	root  *thing
	lines []line
	open  [api.MaxOpen]*thing
	next  int64
}

// room is how many blocks and slots are free.
type room struct{ blocks, slots int }

// least is how many blocks must be free where a name is given.
const least = 4

func newTree() *tree {
	return &tree{root: &thing{id: 1, kind: api.Dir}, next: 2}
}

func (m *tree) find(in *thing, name string) *thing {
	for _, l := range m.lines {
		if l.in == in && l.name == name {
			return l.of
		}
	}
	return nil
}

// within are the lines of a directory, byte by byte.
func (m *tree) within(in *thing) []line {
	some := slices.DeleteFunc(slices.Clone(m.lines), func(l line) bool { return l.in != in })
	slices.SortFunc(some, func(a, b line) int { return cmp.Compare(a.name, b.name) })
	return some
}

func (m *tree) links(of *thing) int {
	n := 0
	for _, l := range m.lines {
		if l.of == of {
			n++
		}
	}
	if of == m.root {
		n++
	}
	return n
}

func (m *tree) up(of *thing) *thing {
	for _, l := range m.lines {
		if l.of == of {
			return l.in
		}
	}
	return m.root
}

// things are all that have a name, or are open, each once.
func (m *tree) things() []*thing {
	all := []*thing{m.root}
	for _, l := range m.lines {
		all = append(all, l.of)
	}
	for _, of := range m.open {
		if of != nil {
			all = append(all, of)
		}
	}
	slices.SortFunc(all, func(a, b *thing) int { return cmp.Compare(a.id, b.id) })
	return slices.Compact(all)
}

// cut takes a line away.
func (m *tree) cut(in *thing, name string) {
	m.lines = slices.DeleteFunc(m.lines, func(l line) bool { return l.in == in && l.name == name })
}

// add adds a line. A directory has a block more, when all places of those that it has are taken.
func (m *tree) add(in *thing, name string, of *thing) {
	if int64(len(m.within(in)))*api.EntrySize == in.size {
		in.size += api.Block
	}
	m.lines = append(m.lines, line{in, name, of})
}

func split(path string) ([]string, bool) {
	var names []string
	good := len(path) > 0 && len(path) <= 255
	for _, part := range strings.Split(path, "/") {
		if part == "" || part == "." {
			continue
		}
		names = append(names, part)
		good = good && (part == ".." || dirent.Name(part))
	}
	return names, good && len(names) <= 16
}

// goes goes names further from a thing on, and counts the links that are gone through.
func (m *tree) goes(at *thing, names []string, through bool, jumps int) (*thing, api.Errno) {
	for k, name := range names {
		if at.kind != api.Dir {
			return nil, api.ErrNotDir
		}
		if name == ".." {
			at = m.up(at)
			continue
		}
		next := m.find(at, name)
		if next == nil {
			return nil, api.ErrNone
		}
		if next.kind != api.Link || k == len(names)-1 && !through {
			at = next
			continue
		}
		if jumps == 8 {
			return nil, api.ErrLoop
		}
		ahead, good := split(string(next.bytes))
		if !good {
			return nil, api.ErrName
		}
		if next.bytes[0] == '/' {
			at = m.root
		}
		return m.goes(at, slices.Concat(ahead, names[k+1:]), through, jumps+1)
	}
	return at, api.OK
}

func (m *tree) walk(path string, through bool) (*thing, api.Errno) {
	names, good := split(path)
	if !good || path[0] != '/' {
		return nil, api.ErrName
	}
	return m.goes(m.root, names, through, 0)
}

func (m *tree) parent(path string) (*thing, string, api.Errno) {
	names, good := split(path)
	if !good || path[0] != '/' {
		return nil, "", api.ErrName
	}
	last := len(names) - 1
	if last < 0 || names[last] == ".." {
		return nil, "", api.ErrArg
	}
	in, e := m.goes(m.root, names[:last], true, 0)
	if e == api.OK && in.kind != api.Dir {
		e = api.ErrNotDir
	}
	return in, names[last], e
}

// makes is Create, Mkdir, and Symlink with a target.
func (m *tree) makes(path string, kind int, target string, has room) api.Errno {
	in, name, e := m.parent(path)
	if e != api.OK {
		return e
	}
	need := least
	if kind == api.Link {
		need += ptr.Need(0, len(target))
		if _, good := split(target); !good {
			return api.ErrName
		}
	}
	switch {
	case m.find(in, name) != nil:
		return api.ErrThere
	case has.slots < 1 || has.blocks < need:
		return api.ErrSpace
	}
	m.add(in, name, &thing{id: m.next, kind: kind, bytes: []byte(target)})
	m.next++
	return api.OK
}

func (m *tree) link(old, path string, has room) api.Errno {
	of, e := m.walk(old, false)
	if e != api.OK {
		return e
	}
	in, name, e := m.parent(path)
	switch {
	case e != api.OK:
		return e
	case of.kind == api.Dir:
		return api.ErrIsDir
	case m.find(in, name) != nil:
		return api.ErrThere
	case has.blocks < least:
		return api.ErrSpace
	}
	m.add(in, name, of)
	return api.OK
}

// goesAway is Unlink, and Rmdir of directories.
func (m *tree) goesAway(path string, dirs bool) api.Errno {
	in, name, e := m.parent(path)
	if e != api.OK {
		return e
	}
	of := m.find(in, name)
	switch {
	case of == nil:
		return api.ErrNone
	case dirs && of.kind != api.Dir:
		return api.ErrNotDir
	case !dirs && of.kind == api.Dir:
		return api.ErrIsDir
	case len(m.within(of)) > 0:
		return api.ErrFilled
	}
	m.cut(in, name)
	return api.OK
}

// below tells whether a thing is a directory, or stands somewhere in it.
func (m *tree) below(at, of *thing) bool {
	for at != of && at != m.root {
		at = m.up(at)
	}
	return at == of
}

func (m *tree) rename(old, path string, has room) api.Errno {
	from, name, e := m.parent(old)
	if e != api.OK {
		return e
	}
	to, other, e := m.parent(path)
	if e != api.OK {
		return e
	}
	of, was := m.find(from, name), m.find(to, other)
	switch {
	case of == nil:
		return api.ErrNone
	case of.kind == api.Dir && m.below(to, of):
		return api.ErrLoop
	case was == of:
		return api.OK
	case was != nil && of.kind == api.Dir && was.kind != api.Dir:
		return api.ErrNotDir
	case was != nil && of.kind != api.Dir && was.kind == api.Dir:
		return api.ErrIsDir
	case was != nil && len(m.within(was)) > 0:
		return api.ErrFilled
	case has.blocks < least:
		return api.ErrSpace
	}
	m.cut(to, other)
	m.add(to, other, of)
	m.cut(from, name)
	return api.OK
}

func (m *tree) opens(path string) (int64, api.Errno) {
	of, e := m.walk(path, true)
	fd := slices.Index(m.open[:], nil)
	switch {
	case e != api.OK:
		return 0, e
	case of.kind == api.Dir:
		return 0, api.ErrIsDir
	case fd < 0:
		return 0, api.ErrFiles
	}
	m.open[fd] = of
	return int64(fd), api.OK
}

// opened is what is open by a number.
func (m *tree) opened(fd int) *thing {
	if fd < 0 || fd >= len(m.open) {
		return nil
	}
	return m.open[fd]
}

func (of *thing) resize(size int64) {
	has := int64(len(of.bytes))
	of.bytes = append(of.bytes[:min(size, has)], make([]byte, max(0, size-has))...)
}

func (of *thing) write(off int64, b []byte, has room) api.Errno {
	end := off + int64(len(b))
	switch {
	case off < 0 || len(b) > 4096:
		return api.ErrRange
	case end > 4166*256 || end < off:
		return api.ErrBig
	case len(b) == 0:
		return api.OK
	case has.blocks < ptr.Need(off, len(b)):
		return api.ErrSpace
	}
	of.resize(max(int64(len(of.bytes)), end))
	copy(of.bytes[off:], b)
	return api.OK
}

func (of *thing) truncate(size int64) api.Errno {
	switch {
	case size < 0:
		return api.ErrRange
	case size > 4166*256:
		return api.ErrBig
	}
	of.resize(size)
	return api.OK
}

func (of *thing) read(off int64, n int) ([]byte, api.Errno) {
	has := int64(len(of.bytes))
	switch {
	case off < 0 || n < 0 || n > 4096:
		return nil, api.ErrRange
	case off >= has:
		return nil, api.OK
	}
	return of.bytes[off:min(off+int64(n), has)], api.OK
}

func (m *tree) stat(of *thing) api.Stat {
	size := int64(len(of.bytes))
	if of.kind == api.Dir {
		size = of.size
	}
	return api.Stat{Id: of.id, Kind: of.kind, Size: size, Links: m.links(of)}
}

// named is what the tree answers to what names and paths are for.
func (m *tree) named(e sys.Event, has room) (a sys.Answer) {
	var of *thing
	switch e.Kind {
	case sys.Create:
		a.Errno = m.makes(e.A, api.File, "", has)
	case sys.Mkdir:
		a.Errno = m.makes(e.A, api.Dir, "", has)
	case sys.Symlink:
		a.Errno = m.makes(e.A, api.Link, e.B, has)
	case sys.Link:
		a.Errno = m.link(e.A, e.B, has)
	case sys.Unlink, sys.Rmdir:
		a.Errno = m.goesAway(e.A, e.Kind == sys.Rmdir)
	case sys.Rename:
		a.Errno = m.rename(e.A, e.B, has)
	case sys.Readlink:
		if of, a.Errno = m.walk(e.A, false); a.Errno == api.OK && of.kind != api.Link {
			a.Errno = api.ErrArg
		} else if a.Errno == api.OK {
			a.Text = string(of.bytes)
		}
	case sys.Stat, sys.Lstat:
		if of, a.Errno = m.walk(e.A, e.Kind == sys.Stat); a.Errno == api.OK {
			a.Stat = m.stat(of)
		}
	case sys.Readdir:
		if of, a.Errno = m.walk(e.A, true); a.Errno == api.OK && of.kind != api.Dir {
			a.Errno = api.ErrNotDir
		} else if a.Errno == api.OK {
			for _, l := range m.within(of) {
				a.Items = append(a.Items, api.Item{Name: l.name, Id: l.of.id})
			}
		}
	case sys.Open:
		a.N, a.Errno = m.opens(e.A)
	}
	return a
}

// answer is what the tree answers, where so much is free.
func (m *tree) answer(e sys.Event, has room) (a sys.Answer) {
	if e.Kind <= sys.Open {
		return m.named(e, has)
	}
	of := m.opened(e.Fd)
	if of == nil {
		return sys.Answer{Errno: api.ErrFd}
	}
	switch e.Kind {
	case sys.Close:
		m.open[e.Fd] = nil
	case sys.Read:
		a.Data, a.Errno = of.read(e.Off, e.N)
	case sys.Write:
		a.Errno = of.write(e.Off, e.Data, has)
	case sys.Truncate:
		a.Errno = of.truncate(e.Off)
	case sys.Fstat:
		a.Stat = m.stat(of)
	}
	return a
}

// path is where a thing stands.
func (m *tree) path(of *thing) string {
	path := ""
	for of != m.root {
		k := slices.IndexFunc(m.lines, func(l line) bool { return l.of == of })
		path = "/" + m.lines[k].name + path
		of = m.lines[k].in
	}
	return path + "/"
}

// said is what a thing is, as a text: a directory's names, with the numbers of what they name, or a size.
func (m *tree) said(of *thing) string {
	if of.kind != api.Dir {
		return fmt.Sprint(len(of.bytes))
	}
	return said(m.within(of))
}

func said(lines []line) string {
	var b strings.Builder
	for _, l := range lines {
		fmt.Fprintf(&b, "%s=%d ", l.name, l.of.id)
	}
	return b.String()
}
