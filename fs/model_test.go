package fs_test

import (
	"bytes"
	"fmt"
	"slices"
	"strings"
	"testing"

	"levee/api"
	"levee/dirent"
	"levee/disk"
	"levee/fs"
	"levee/ptr"
	"levee/push"
)

// dice gives the same numbers below n in every run.
type dice uint32

func (d *dice) below(n int) int {
	*d ^= *d << 13
	*d ^= *d >> 17
	*d ^= *d << 5
	return int(uint32(*d) % uint32(n))
}

// thing is one of the model's: what it is, and where names of it stand.
type thing struct {
	id    int64
	kind  int
	bytes []byte
}

// name is a line of the model's list: that in a directory a name names a thing.
type name struct {
	in   *thing
	name string
	of   *thing
}

// model is a tree of directories, files and links in a list.
type model struct {
	root  *thing
	names []name
	open  [api.MaxOpen]*thing
	next  int64
}

func newModel() *model {
	return &model{root: &thing{id: 1, kind: api.Dir}, next: 2}
}

func (m *model) find(in *thing, text string) *thing {
	for _, n := range m.names {
		if n.in == in && n.name == text {
			return n.of
		}
	}
	return nil
}

// within are the lines of a directory.
func (m *model) within(in *thing) []name {
	return slices.DeleteFunc(slices.Clone(m.names), func(n name) bool { return n.in != in })
}

// links is how many lines name a thing.
func (m *model) links(of *thing) int {
	many := 0
	for _, n := range m.names {
		if n.of == of {
			many++
		}
	}
	if of == m.root {
		many++
	}
	return many
}

// up is the directory of a directory.
func (m *model) up(of *thing) *thing {
	for _, n := range m.names {
		if n.of == of {
			return n.in
		}
	}
	return m.root
}

// parts are the names of a path; ok is whether it can be.
func parts(path string) (names []string, ok bool) {
	for _, part := range strings.Split(path, "/") {
		if part != "" && part != "." {
			names = append(names, part)
		}
	}
	good := !slices.ContainsFunc(names, func(s string) bool { return s != ".." && !dirent.Name(s) })
	return names, good && len(names) <= 16 && len(path) >= 1 && len(path) <= 255
}

// goes goes names further from a thing on, one by one, and counts the links that are gone through.
func (m *model) goes(at *thing, names []string, through bool, jumps *int) (*thing, api.Errno) {
	for k, text := range names {
		if at.kind != api.Dir {
			return nil, api.ErrNotDir
		}
		if text == ".." {
			at = m.up(at)
			continue
		}
		next := m.find(at, text)
		if next == nil {
			return nil, api.ErrNone
		}
		if next.kind != api.Link || k == len(names)-1 && !through {
			at = next
			continue
		}
		*jumps++
		if *jumps > 8 {
			return nil, api.ErrLoop
		}
		ahead, ok := parts(string(next.bytes))
		if !ok {
			return nil, api.ErrName
		}
		if next.bytes[0] == '/' {
			at = m.root
		}
		end, e := m.goes(at, slices.Concat(ahead, names[k+1:]), through, jumps)
		return end, e
	}
	return at, api.OK
}

func (m *model) walk(path string, through bool) (*thing, api.Errno) {
	names, ok := parts(path)
	if !ok || path[0] != '/' {
		return nil, api.ErrName
	}
	jumps := 0
	return m.goes(m.root, names, through, &jumps)
}

func (m *model) parent(path string) (*thing, string, api.Errno) {
	names, ok := parts(path)
	if !ok || path[0] != '/' {
		return nil, "", api.ErrName
	}
	last := len(names) - 1
	if last < 0 || names[last] == ".." {
		return nil, "", api.ErrArg
	}
	jumps := 0
	in, e := m.goes(m.root, names[:last], true, &jumps)
	if e == api.OK && in.kind != api.Dir {
		e = api.ErrNotDir
	}
	return in, names[last], e
}

// free is what a call may take.
type free struct{ blocks, slots int }

// makes is Create, Mkdir and Symlink.
func (m *model) makes(path string, kind int, target string, has free) api.Errno {
	in, text, e := m.parent(path)
	if e != api.OK {
		return e
	}
	need := 4
	if kind == api.Link {
		need += 4
		if _, ok := parts(target); !ok {
			return api.ErrName
		}
	}
	switch {
	case m.find(in, text) != nil:
		return api.ErrThere
	case has.slots < 1 || has.blocks < need:
		return api.ErrSpace
	}
	m.names = append(m.names, name{in, text, &thing{id: m.next, kind: kind, bytes: []byte(target)}})
	m.next++
	return api.OK
}

func (m *model) link(old, path string, has free) api.Errno {
	of, e := m.walk(old, false)
	if e != api.OK {
		return e
	}
	in, text, e := m.parent(path)
	switch {
	case e != api.OK:
		return e
	case of.kind == api.Dir:
		return api.ErrIsDir
	case m.find(in, text) != nil:
		return api.ErrThere
	case has.blocks < 4:
		return api.ErrSpace
	}
	m.names = append(m.names, name{in, text, of})
	return api.OK
}

// cuts takes a line away.
func (m *model) cuts(in *thing, text string) {
	m.names = slices.DeleteFunc(m.names, func(n name) bool { return n.in == in && n.name == text })
}

// remove is Unlink and Rmdir.
func (m *model) remove(path string, isDir bool) api.Errno {
	in, text, e := m.parent(path)
	if e != api.OK {
		return e
	}
	of := m.find(in, text)
	switch {
	case of == nil:
		return api.ErrNone
	case isDir && of.kind != api.Dir:
		return api.ErrNotDir
	case !isDir && of.kind == api.Dir:
		return api.ErrIsDir
	case len(m.within(of)) > 0:
		return api.ErrFilled
	}
	m.cuts(in, text)
	return api.OK
}

func (m *model) rename(old, path string, has free) api.Errno {
	from, text, e := m.parent(old)
	if e != api.OK {
		return e
	}
	to, other, e := m.parent(path)
	if e != api.OK {
		return e
	}
	of := m.find(from, text)
	if of == nil {
		return api.ErrNone
	}
	for at := to; ; at = m.up(at) {
		if at == of {
			return api.ErrLoop
		}
		if at == m.root {
			break
		}
	}
	was := m.find(to, other)
	switch {
	case was == of:
		return api.OK
	case was != nil && of.kind == api.Dir && was.kind != api.Dir:
		return api.ErrNotDir
	case was != nil && of.kind != api.Dir && was.kind == api.Dir:
		return api.ErrIsDir
	case was != nil && len(m.within(was)) > 0:
		return api.ErrFilled
	case has.blocks < 4:
		return api.ErrSpace
	}
	m.cuts(to, other)
	m.cuts(from, text)
	m.names = append(m.names, name{to, other, of})
	return api.OK
}

// stat is what is told of a thing; the size of a directory no list tells.
func (m *model) stat(of *thing, size int64) api.Stat {
	if of.kind != api.Dir {
		size = int64(len(of.bytes))
	}
	return api.Stat{Id: of.id, Kind: of.kind, Size: size, Links: m.links(of)}
}

func (m *model) readdir(path string) ([]api.Item, api.Errno) {
	in, e := m.walk(path, true)
	if e == api.OK && in.kind != api.Dir {
		e = api.ErrNotDir
	}
	if e != api.OK {
		return nil, e
	}
	var items []api.Item
	for _, n := range m.within(in) {
		items = append(items, api.Item{Name: n.name, Id: n.of.id})
	}
	slices.SortFunc(items, func(a, b api.Item) int { return bytes.Compare([]byte(a.Name), []byte(b.Name)) })
	return items, api.OK
}

func (m *model) opens(path string) (int, api.Errno) {
	of, e := m.walk(path, true)
	if e != api.OK {
		return 0, e
	}
	fd := slices.Index(m.open[:], nil)
	switch {
	case of.kind == api.Dir:
		return 0, api.ErrIsDir
	case fd < 0:
		return 0, api.ErrFiles
	}
	m.open[fd] = of
	return fd, api.OK
}

// opened is what is open by a number.
func (m *model) opened(fd int) *thing {
	if fd < 0 || fd >= len(m.open) {
		return nil
	}
	return m.open[fd]
}

func (m *model) write(fd int, off int64, b []byte, has free) api.Errno {
	of := m.opened(fd)
	switch {
	case of == nil:
		return api.ErrFd
	case off < 0 || len(b) > 4096:
		return api.ErrRange
	case off+int64(len(b)) > 4166*256:
		return api.ErrBig
	case len(b) == 0:
		return api.OK
	case has.blocks < ptr.Need(off, len(b)):
		return api.ErrSpace
	}
	of.resize(max(int64(len(of.bytes)), off+int64(len(b))))
	copy(of.bytes[off:], b)
	return api.OK
}

func (of *thing) resize(size int64) {
	of.bytes = append(of.bytes[:min(size, int64(len(of.bytes)))], make([]byte, max(0, size-int64(len(of.bytes))))...)
}

// pair is a file system, and the model of it.
type pair struct {
	t     *testing.T
	r     *dice
	d     *disk.Disk
	f     *fs.Fs
	m     *model
	calls map[string]int
}

func newPair(t *testing.T, r *dice, g api.Geo) *pair {
	d := formatted(t, g)
	return &pair{t: t, r: r, d: d, f: mounted(t, d), m: newModel(), calls: map[string]int{}}
}

func (p *pair) has() free {
	b, s := p.f.Free()
	return free{b, s}
}

// path is some path, mostly of few names, so that much is met again.
func (p *pair) path() string {
	if p.r.below(40) == 0 {
		return slices.Concat(noPaths, notRooted, []string{"/", "/..", "//./"})[p.r.below(len(noPaths)+len(notRooted)+3)]
	}
	var b strings.Builder
	for range 1 + p.r.below(4) {
		b.WriteString("/")
		if p.r.below(12) == 0 {
			b.WriteString([]string{"..", ".", "", "../.."}[p.r.below(4)])
		} else {
			b.WriteString([]string{"a", "b", "c", "d", "e", "aa", "B", "\xff"}[p.r.below(8)])
		}
	}
	return b.String()
}

// there is some path of the model's list, mostly.
func (p *pair) there() string {
	if len(p.m.names) == 0 || p.r.below(4) == 0 {
		return p.path()
	}
	n := p.m.names[p.r.below(len(p.m.names))]
	path := "/" + n.name
	for at := n.in; at != p.m.root; at = p.m.up(at) {
		k := slices.IndexFunc(p.m.names, func(n name) bool { return n.of == at })
		path = "/" + p.m.names[k].name + path
	}
	return path
}

// some is a path of one of the two sorts.
func (p *pair) some() string {
	if p.r.below(2) == 0 {
		return p.path()
	}
	return p.there()
}

// target is some path for a link.
func (p *pair) target() string {
	switch p.r.below(12) {
	case 0:
		return noPaths[p.r.below(len(noPaths))]
	case 1:
		return strings.Repeat("./", p.r.below(100)) + "a"
	case 2, 3, 4:
		return strings.TrimLeft(p.path(), "/") + "/"
	case 5, 6:
		return ".." + p.path()
	}
	return p.there()
}

// held holds an answer against the model's.
func (p *pair) held(what string, e, want api.Errno) bool {
	p.t.Helper()
	if e != want {
		p.t.Errorf("%s: %d, not %d", what, e, want)
	}
	p.calls[fmt.Sprint(strings.SplitN(what, " ", 2)[0], " ", e)]++
	return e == api.OK && want == api.OK
}

// changes makes some call that changes names.
func (p *pair) changes() {
	p.t.Helper()
	has, a, b := p.has(), p.some(), p.some()
	var e, want api.Errno
	var what string
	switch k := p.r.below(100); {
	case k < 25:
		what, e, want = "create "+a, p.f.Create(a), p.m.makes(a, api.File, "", has)
	case k < 45:
		what, e, want = "mkdir "+a, p.f.Mkdir(a), p.m.makes(a, api.Dir, "", has)
	case k < 55:
		b = p.target()
		what, e, want = "symlink "+b+" "+a, p.f.Symlink(b, a), p.m.makes(a, api.Link, b, has)
	case k < 65:
		a = p.there()
		what, e, want = "link "+a+" "+b, p.f.Link(a, b), p.m.link(a, b, has)
	case k < 75:
		a = p.there()
		what, e, want = "unlink "+a, p.f.Unlink(a), p.m.remove(a, false)
	case k < 82:
		a = p.there()
		what, e, want = "rmdir "+a, p.f.Rmdir(a), p.m.remove(a, true)
	default:
		a = p.there()
		what, e, want = "rename "+a+" "+b, p.f.Rename(a, b), p.m.rename(a, b, has)
	}
	p.held(what, e, want)
}

// asks makes some call that tells of a path.
func (p *pair) asks() {
	p.t.Helper()
	path, through := p.some(), p.r.below(2) == 0
	of, want := p.m.walk(path, through)
	s, e := p.f.Stat(path, through)
	if p.held(fmt.Sprintf("stat %q, %t", path, through), e, want) {
		if w := p.m.stat(of, s.Size); s != w {
			p.t.Errorf("Stat(%q): %v, not %v", path, s, w)
		}
	} else if s != (api.Stat{}) {
		p.t.Errorf("Stat(%q): %v, %d", path, s, e)
	}
	items, e := p.f.Readdir(path)
	all, want := p.m.readdir(path)
	p.held("readdir "+path, e, want)
	if !slices.Equal(items, all) {
		p.t.Errorf("Readdir(%q): %v, not %v", path, items, all)
	}
	text := ""
	if of, want = p.m.walk(path, false); want == api.OK && of.kind != api.Link {
		want = api.ErrArg
	} else if want == api.OK {
		text = string(of.bytes)
	}
	got, e := p.f.Readlink(path)
	p.held("readlink "+path, e, want)
	if got != text {
		p.t.Errorf("Readlink(%q): %q, not %q", path, got, text)
	}
}

// opening makes some call of Open and Close.
func (p *pair) opening() {
	p.t.Helper()
	if path := p.there(); p.r.below(5) < 3 {
		fd, e := p.f.Open(path)
		n, want := p.m.opens(path)
		p.held("open "+path, e, want)
		if fd != n {
			p.t.Errorf("Open(%q): %d, not %d", path, fd, n)
		}
		return
	}
	fd, want := p.r.below(12)-2, api.ErrFd
	if p.m.opened(fd) != nil {
		p.m.open[fd], want = nil, api.OK
	}
	p.held("close", p.f.Close(fd), want)
}

// bytes makes some call of bytes.
func (p *pair) bytes() {
	p.t.Helper()
	fd, has := p.r.below(9), p.has()
	of := p.m.opened(fd)
	off := int64([]int{0, 1, 255, 256, 700, 1535, 1536, 2000, 17900, 18000, -1, 4166 * 256, 4166*256 - 30}[p.r.below(13)])
	n := []int{0, 1, 2, 255, 256, 257, 900, 1700, 4096, 4097}[p.r.below(10)]
	switch p.r.below(3) {
	case 0:
		b := bytes.Repeat([]byte{byte(1 + p.r.below(255))}, n)
		p.held("write", p.f.Write(fd, off, b), p.m.write(fd, off, b, has))
		clear(b)
	case 1:
		want := api.OK
		switch {
		case of == nil:
			want = api.ErrFd
		case off < 0:
			want = api.ErrRange
		case off+int64(n) > 4166*256:
			want = api.ErrBig
		default:
			of.resize(off + int64(n))
		}
		if off >= 0 {
			off += int64(n)
		}
		p.held("truncate", p.f.Truncate(fd, off), want)
	}
	p.reads(fd, max(off, 0)+int64(p.r.below(300)-150), n)
}

// reads holds what is open by a number.
func (p *pair) reads(fd int, off int64, n int) {
	p.t.Helper()
	of, want := p.m.opened(fd), api.OK
	var has []byte
	s, e := p.f.Fstat(fd)
	switch {
	case of == nil:
		want = api.ErrFd
		p.held("fstat", e, want)
	case off < 0 || n > 4096:
		want = api.ErrRange
	case off < int64(len(of.bytes)):
		has = of.bytes[off:min(off+int64(n), int64(len(of.bytes)))]
	}
	if of != nil && (s != p.m.stat(of, 0) || e != api.OK) {
		p.t.Errorf("Fstat(%d): %v, %d, not %v", fd, s, e, p.m.stat(of, 0))
	}
	b, e := p.f.Read(fd, off, n)
	if p.held("read", e, want); !bytes.Equal(b, has) {
		p.t.Errorf("Read(%d, %d, %d): %d bytes, not as they were written (%d)", fd, off, n, len(b), len(has))
	}
}

// between writes, flushes and frees: no call answers otherwise behind it.
func (p *pair) between() {
	store := volume(p.f).Store()
	switch p.r.below(4) {
	case 0:
		push.Step(store, p.r.below(50))
	case 1:
		store.Flush()
	case 2:
		files(p.f).Alloc().Settle()
	case 3:
		if p.r.below(10) == 0 {
			push.All(store)
		}
	}
}

// again makes all safe, and mounts the disk anew; what is open is closed ahead of it.
func (p *pair) again() {
	p.t.Helper()
	for fd := range p.m.open {
		if p.m.open[fd] != nil {
			p.held("close", p.f.Close(fd), api.OK)
			p.m.open[fd] = nil
		}
	}
	settle(p.f)
	p.taken()
	p.f = mounted(p.t, p.d)
	p.m.next = 2
	for _, n := range p.m.names {
		p.m.next = max(p.m.next, n.of.id+1)
	}
}

// taken holds what is free when all is safe, and nothing is open without a name: all that no thing has.
func (p *pair) taken() {
	p.t.Helper()
	g := volume(p.f).Geo()
	blocks, slots := g.Groups*(g.Group-1-g.Inodes/4), g.Groups*g.Inodes-2
	met := map[*thing]bool{}
	for _, n := range p.m.names {
		met[n.of] = true
	}
	slots -= len(met)
	for slot := 1; slot < g.Groups*g.Inodes; slot++ {
		owned, _ := files(p.f).Owned(slot)
		blocks -= len(owned)
	}
	if b, s := p.f.Free(); b != blocks || s != slots {
		p.t.Errorf("Free: %d, %d, not %d, %d", b, s, blocks, slots)
	}
}

// all holds the whole tree.
func (p *pair) all() {
	p.t.Helper()
	for _, n := range p.m.names {
		slot, ok := p.slot(n.of)
		if s, e := p.f.Nodes().Stat(slot); !ok || e != api.OK || s != p.m.stat(n.of, s.Size) {
			p.t.Errorf("%q: %v, %d, not %v", n.name, s, e, p.m.stat(n.of, s.Size))
		}
		for off := 0; off < len(n.of.bytes) && n.of.kind == api.File; off += api.MaxIO {
			b, _ := files(p.f).Read(slot, int64(off), api.MaxIO)
			if !bytes.Equal(b, n.of.bytes[off:min(off+api.MaxIO, len(n.of.bytes))]) {
				p.t.Errorf("%q has other bytes from %d on", n.name, off)
			}
		}
	}
}

// slot is where a thing stands.
func (p *pair) slot(of *thing) (int, bool) {
	g := volume(p.f).Geo()
	for slot := 1; slot < g.Groups*g.Inodes; slot++ {
		if i, e := files(p.f).Get(slot); e == api.OK && i.Id == of.id {
			return slot, true
		}
	}
	return 0, false
}

// step makes some call. None of them makes free what was given.
func (p *pair) step() {
	p.t.Helper()
	was := p.has()
	switch k := p.r.below(100); {
	case k < 45:
		p.changes()
	case k < 60:
		p.asks()
	case k < 70:
		p.opening()
	case k < 85:
		p.bytes()
	case k < 99:
		p.between()
		return
	default:
		if p.r.below(4) == 0 {
			p.again()
		}
		return
	}
	if now := p.has(); now.blocks > was.blocks || now.slots > was.slots {
		p.t.Errorf("Free: %v behind a call, %v ahead of it", now, was)
	}
}

// P19.5 (P1): any calls, one behind the other, with blocks written, flushed and made free between, answer what a tree in a list would.
func TestAnyCalls(t *testing.T) {
	r := dice(2463534242)
	calls := map[string]int{}
	for run := range 120 {
		p := newPair(t, &r, api.Geo{Group: []int{16, 20, 32, 76}[run%4], Inodes: []int{8, 16, 32}[r.below(3)], Groups: 1 + r.below(3)})
		for step := range 700 {
			p.step()
			if step%20 == 0 {
				p.all()
			}
			if t.Failed() {
				t.Fatalf("run %d, step %d", run, step)
			}
		}
		p.again()
		p.all()
		for what, n := range p.calls {
			calls[what] += n
		}
	}
	for _, what := range []string{
		"create 0", "create 1", "create 20", "create 21", "create 23", "create 25", "create 26", "create 29", "mkdir 0", "mkdir 21", "mkdir 26", "symlink 0", "symlink 21", "symlink 25", "symlink 26",
		"link 0", "link 20", "link 21", "link 22", "link 26", "unlink 0", "unlink 20", "unlink 22", "rmdir 0", "rmdir 23", "rmdir 24", "rename 0", "rename 20", "rename 22", "rename 23", "rename 24", "rename 26", "rename 29",
		"stat 0", "stat 20", "stat 29", "readdir 0", "readdir 23", "readlink 0", "readlink 1", "open 0", "open 22", "open 27", "close 0", "close 30",
		"write 0", "write 3", "write 26", "write 28", "write 30", "truncate 0", "truncate 3", "truncate 28", "truncate 30", "read 0", "read 3", "read 30", "fstat 30",
	} {
		if calls[what] < 3 {
			t.Errorf("%s: %d times", what, calls[what])
		}
	}
}

// P1: two file systems to which the same happens answer the same, and have the same bytes on their disks.
func TestSameAgain(t *testing.T) {
	var disks [2][]byte
	for k := range disks {
		r := dice(99)
		p := newPair(t, &r, api.Geo{Group: 40, Inodes: 16, Groups: 2})
		for range 400 {
			p.step()
		}
		disks[k] = p.d.Bytes()
	}
	if !bytes.Equal(disks[0], disks[1]) {
		t.Error("the same calls left other bytes")
	}
}
