package check_test

import (
	"bytes"
	"encoding/binary"
	"fmt"
	"slices"
	"strings"
	"testing"

	"levee/api"
	"levee/check"
	"levee/defrag"
	"levee/dirent"
	"levee/disk"
	"levee/file"
	"levee/fs"
	"levee/geo"
	"levee/group"
	"levee/grow"
	"levee/imove"
	"levee/inode"
	"levee/move"
	"levee/shrink"
	"levee/super"
	"levee/sync"
	"levee/vol"
)

// dice gives the same numbers below n in every run.
type dice uint32

func (d *dice) below(n int) int {
	*d ^= *d << 13
	*d ^= *d >> 17
	*d ^= *d << 5
	return int(uint32(*d) % uint32(n))
}

// name is a name of a block, as it stands in a thing.
type name struct {
	b    uint32
	n    int // the first of the blocks of bytes that one comes to by it
	deep int // how many names more there are on the way to these
}

// model is a volume, looked at by the words of chapter 26, one sentence after another; each of these says why it is not whole.
type model struct {
	bytes  []byte
	geo    api.Geo
	things map[int]api.Inode
	names  map[int][]name      // by slot, all that are not 0
	lists  map[int][]api.Entry // by slot of a directory
	times  map[int]int         // how often a slot is named
	heads  map[int]group.Head
	report check.Report
}

func (m *model) block(b int) []byte {
	return m.bytes[b*api.Block : (b+1)*api.Block]
}

// modelled is what Whole must answer, and the sentence that says so.
func modelled(all []byte) (check.Report, api.Errno, string) {
	places := [2][]byte{}
	for at := range places {
		if len(all) >= (at+1)*api.Block {
			places[at] = all[at*api.Block : (at+1)*api.Block]
		}
	}
	s, _, e := super.Choose(places[0], places[1], len(all)/api.Block)
	if e != api.OK {
		return check.Report{}, api.ErrSuper, "super"
	}
	m := &model{bytes: all, geo: s.Geo, things: map[int]api.Inode{}, names: map[int][]name{}, lists: map[int][]api.Entry{}, times: map[int]int{}, heads: map[int]group.Head{}}
	sentences := []struct {
		what string
		is   func() bool
	}{
		{"headers", m.headers}, {"inodes", m.inodes}, {"root", m.root}, {"numbers", m.numbers},
		{"data", m.data}, {"twice", m.once}, {"behind", m.within}, {"tail", m.tails},
		{"entries", m.entries}, {"directories", m.directories}, {"files", m.files}, {"links", m.links}, {"way", m.ways},
		{"slots", m.slots}, {"blocks", m.blocks},
	}
	for _, s := range sentences {
		if !s.is() {
			return check.Report{}, api.ErrForm, s.what
		}
	}
	return m.report, api.OK, "whole"
}

func (m *model) headers() bool {
	for k := range m.geo.Groups {
		b, _ := geo.Head(m.geo, k)
		h, e := group.Get(m.geo, m.block(b))
		if e != api.OK || h.No != k {
			return false
		}
		m.heads[k] = h
	}
	return true
}

func (m *model) inodes() bool {
	for slot := range geo.Slots(m.geo) {
		b, place, _ := geo.Place(m.geo, slot)
		i, e := inode.Get(m.block(b)[place*64 : place*64+64])
		if e != api.OK {
			return false
		}
		if i.Kind != api.Free {
			m.things[slot] = i
		}
	}
	_, zero := m.things[0]
	return !zero
}

func (m *model) root() bool { return m.things[vol.Root].Kind == api.Dir }

func (m *model) numbers() bool {
	for a, i := range m.things {
		for b, j := range m.things {
			if a != b && i.Id == j.Id {
				return false
			}
		}
	}
	return true
}

// data finds all names, as far as they are those of data blocks.
func (m *model) data() bool {
	right := true
	for slot, i := range m.things {
		var all []name
		for n, b := range i.P {
			all = append(all, name{uint32(b), n, 0})
		}
		all = append(all, name{uint32(i.In), 6, 1}, name{uint32(i.Din), 70, 2})
		for at := 0; at < len(all) && len(all) < 9000; at++ {
			x := all[at]
			kind, _ := geo.Kind(m.geo, int(x.b))
			if x.b != 0 && kind != geo.Data {
				right = false
			}
			for place := 0; kind == geo.Data && x.deep > 0 && place < 64; place++ {
				all = append(all, name{binary.LittleEndian.Uint32(m.block(int(x.b))[4*place:]), x.n + place*[]int{0, 1, 64}[x.deep], x.deep - 1})
			}
		}
		m.names[slot] = slices.DeleteFunc(all, func(x name) bool { return x.b == 0 })
	}
	return right
}

func (m *model) once() bool {
	met := map[uint32]bool{}
	for _, all := range m.names {
		for _, x := range all {
			if met[x.b] {
				return false
			}
			met[x.b] = true
		}
	}
	m.report.Blocks = len(met)
	return true
}

func (m *model) within() bool {
	for slot, all := range m.names {
		if slices.ContainsFunc(all, func(x name) bool { return int64(x.n)*api.Block >= m.things[slot].Size }) {
			return false
		}
	}
	return true
}

func (m *model) tails() bool {
	for slot, all := range m.names {
		i := m.things[slot]
		for _, x := range all {
			for at, b := range m.block(int(x.b)) {
				if i.Kind != api.Dir && x.deep == 0 && int64(x.n*api.Block+at) >= i.Size && b != 0 {
					return false
				}
			}
		}
	}
	return true
}

func (m *model) entries() bool {
	for slot, all := range m.names {
		if m.things[slot].Kind != api.Dir {
			continue
		}
		for _, x := range all {
			for place := 0; x.deep == 0 && place < 8; place++ {
				e, errno := dirent.Get(m.block(int(x.b))[place*32 : place*32+32])
				_, thing := m.things[e.Slot]
				if errno != api.OK || e.Slot != 0 && (e.Leaving || e.Slot < 2 || !thing) {
					return false
				}
				if e.Slot == 0 {
					continue
				}
				if slices.ContainsFunc(m.lists[slot], func(o api.Entry) bool { return o.Name == e.Name }) {
					return false
				}
				m.lists[slot] = append(m.lists[slot], e)
				m.times[e.Slot]++
			}
		}
	}
	return true
}

func (m *model) directories() bool {
	for slot, i := range m.things {
		if i.Kind == api.Dir {
			m.report.Dirs++
		}
		if i.Kind == api.Dir && slot != vol.Root && m.times[slot] != 1 {
			return false
		}
	}
	return true
}

func (m *model) files() bool {
	for slot, i := range m.things {
		switch i.Kind {
		case api.File:
			m.report.Files++
		case api.Link:
			m.report.Links++
		}
		if i.Kind != api.Dir && m.times[slot] == 0 {
			return false
		}
	}
	return true
}

func (m *model) links() bool {
	for slot, i := range m.things {
		if slot == vol.Root && i.Links != 1 || slot != vol.Root && i.Links != m.times[slot] {
			return false
		}
	}
	return true
}

// ways goes from each directory up, to the root.
func (m *model) ways() bool {
	above := map[int]int{}
	for dir, list := range m.lists {
		for _, e := range list {
			above[e.Slot] = dir
		}
	}
	for slot, i := range m.things {
		if i.Kind != api.Dir {
			continue
		}
		for range len(m.things) {
			if slot != vol.Root {
				slot = above[slot]
			}
		}
		if slot != vol.Root {
			return false
		}
	}
	return true
}

func (m *model) slots() bool {
	for slot := range geo.Slots(m.geo) {
		h := m.heads[slot/m.geo.Inodes]
		n := slot % m.geo.Inodes
		_, thing := m.things[slot]
		set := h.Slots[n/8]>>(n%8)&1 == 1
		if set != (thing || slot < 2) {
			return false
		}
		if !set {
			m.report.Slots++
		}
	}
	return true
}

func (m *model) blocks() bool {
	named := map[int]bool{}
	for _, all := range m.names {
		for _, x := range all {
			named[int(x.b)] = true
		}
	}
	for b := range geo.Size(m.geo) {
		kind, k := geo.Kind(m.geo, b)
		if kind != geo.Data {
			continue
		}
		first, _ := geo.Head(m.geo, k)
		n := b - first
		set := m.heads[k].Blocks[n/8]>>(n%8)&1 == 1
		if set != named[b] {
			return false
		}
		if !set {
			m.report.Free++
		}
	}
	return true
}

// machine is a file system at work, with all that moves its parts.
type machine struct {
	t     *testing.T
	r     *dice
	d     *disk.Disk
	x     *imove.Slots
	g     *grow.Grow
	s     *shrink.Shrink
	k     *defrag.Defrag
	calls map[string]int
	log   []string
}

func newMachine(t *testing.T, r *dice) *machine {
	t.Helper()
	g := api.Geo{Group: 20 + r.below(24), Inodes: []int{4, 8, 12}[r.below(3)], Groups: 1 + r.below(3)}
	m := &machine{t: t, r: r, d: formatted(t, geo.Size(g)+r.below(100), g), calls: map[string]int{}}
	f, e := fs.Mount(m.d)
	answers(t, "Mount", e, api.OK)
	m.x = imove.New(move.New(sync.New(f)))
	m.g, m.s, m.k = grow.New(m.x), shrink.New(m.x), defrag.New(m.x)
	return m
}

func (m *machine) sync() *sync.Sync { return m.x.Mover().Sync() }

func (m *machine) fs() *fs.Fs { return m.sync().Fs() }

func (m *machine) files() *file.Files { return m.fs().Nodes().Tree().Dirs().Files() }

func (m *machine) volume() *vol.Vol { return m.files().Alloc().Vol() }

// path is some path.
func (m *machine) path() string {
	path := ""
	for range 1 + m.r.below(3) {
		path += "/" + string(rune('a'+m.r.below(4)))
	}
	return path
}

func (m *machine) did(what string, e api.Errno) {
	m.calls[fmt.Sprint(strings.SplitN(what, " ", 2)[0], " ", e)]++
	m.log = append(m.log, fmt.Sprint(what, ": ", e))
}

// call makes some call of the file system.
func (m *machine) call() {
	f, a, b, fd := m.fs(), m.path(), m.path(), m.r.below(3)
	switch k := m.r.below(16); k {
	case 0, 1:
		m.did("create "+a, f.Create(a))
	case 2, 3:
		m.did("mkdir "+a, f.Mkdir(a))
	case 4:
		m.did("symlink "+a, f.Symlink(b, a))
	case 5:
		m.did("link "+a+" "+b, f.Link(a, b))
	case 6:
		m.did("unlink "+a, f.Unlink(a))
	case 7:
		m.did("rmdir "+a, f.Rmdir(a))
	case 8, 9:
		m.did("rename "+a+" "+b, f.Rename(a, b))
	case 10:
		_, e := f.Open(a)
		m.did("open "+a, e)
	case 11:
		m.did(fmt.Sprint("close ", fd), f.Close(fd))
	case 12, 13, 14:
		off, n := int64([]int{0, 100, 256, 1400, 1536, 17900}[m.r.below(6)]+m.r.below(900)), 1+m.r.below(1200)
		m.did(fmt.Sprint("write ", fd, off, n), f.Write(fd, off, bytes.Repeat([]byte{byte(1 + m.r.below(255))}, n)))
	default:
		size := int64([]int{0, 10, 256, 300, 1536, 1700, 17000, 18000}[m.r.below(8)])
		m.did(fmt.Sprint("truncate ", fd, size), f.Truncate(fd, size))
	}
}

// works moves something, or goes on with what is under way.
func (m *machine) works() {
	things := m.x.Mover().Things()
	slot, near := things[m.r.below(len(things))], m.r.below(m.d.Len())
	switch m.r.below(9) {
	case 0:
		own, _ := m.files().Owned(slot)
		if len(own) > 0 {
			_, e := m.x.Mover().Block(own[m.r.below(len(own))], near)
			m.did("Block", e)
		}
	case 1:
		_, e := m.x.Move(slot, near)
		m.did("Move", e)
	case 2:
		_, _, e := m.k.File(slot)
		m.did("File", e)
	case 3:
		if m.s.Target() == 0 {
			m.did("Grow", m.g.Begin(1+m.r.below(5)))
		}
	case 4:
		if m.g.Target() == 0 {
			m.did("Shrink", m.s.Begin(1+m.r.below(4)))
		}
	case 5:
		m.did("Defrag", m.k.Begin())
	default:
		m.did("step", m.step())
	}
}

func (m *machine) step() api.Errno {
	var e api.Errno
	switch {
	case m.g.Target() > 0:
		_, e = m.g.Step()
	case m.s.Target() > 0:
		_, e = m.s.Step()
	default:
		_, e = m.k.Step()
	}
	return e
}

// writes writes some blocks, and flushes.
func (m *machine) writes() {
	for range m.r.below(4) {
		m.sync().Write(m.r.below(20))
	}
	m.sync().Flush()
}

// nameless tells whether something is open that has no name.
func (m *machine) nameless() bool {
	for fd := range api.MaxOpen {
		if s, e := m.fs().Fstat(fd); e == api.OK && s.Links == 0 {
			return true
		}
	}
	return false
}

// counted is what the layers below tell of the volume.
func (m *machine) counted() check.Report {
	var r check.Report
	for _, slot := range m.x.Mover().Things() {
		i, _ := m.files().Get(slot)
		switch i.Kind {
		case api.Dir:
			r.Dirs++
		case api.File:
			r.Files++
		case api.Link:
			r.Links++
		}
		own, _ := m.files().Owned(slot)
		r.Blocks += len(own)
	}
	g := m.volume().Geo()
	for k := range g.Groups {
		first, past := geo.Range(g, k)
		b, s, _ := m.files().Alloc().Used(k)
		r.Free += past - first - b
		r.Slots += g.Inodes - s
	}
	r.Slots -= 2
	return r
}

// P26.2: a volume on which all is safe is whole, whatever was called, if nothing is open that has no name.
func TestQuiet(t *testing.T) {
	r := dice(2718281828)
	calls := map[string]int{}
	for run := range 120 {
		m := newMachine(t, &r)
		for step := range 300 {
			switch k := r.below(20); {
			case k < 11:
				m.call()
			case k < 15:
				m.works()
			case k < 18:
				m.writes()
			default:
				_, e := m.sync().Sync()
				m.did("Sync", e)
			}
			if !m.sync().Quiet() {
				continue
			}
			want, errno := m.counted(), api.OK
			if m.nameless() {
				want, errno = check.Report{}, api.ErrForm
			}
			got, e := check.Whole(m.d)
			calls[fmt.Sprint("Whole ", e)]++
			if got != want || e != errno {
				_, _, why := modelled(m.d.Bytes())
				t.Fatalf("run %d, step %d: %+v, %d, not %+v, %d (%s):\n%s", run, step, got, e, want, errno, why, strings.Join(m.log, "\n"))
			}
		}
		for what, n := range m.calls {
			calls[what] += n
		}
	}
	for _, what := range []string{"create 0", "mkdir 0", "symlink 0", "link 0", "unlink 0", "rmdir 0", "rename 0", "open 0", "close 0", "write 0", "truncate 0", "Block 0", "Move 0", "File 0", "Grow 0", "Shrink 0", "Defrag 0", "step 0", "Sync 0", "Whole 0", "Whole 8"} {
		if calls[what] < 10 {
			t.Errorf("%s: %d times", what, calls[what])
		}
	}
}

// spoil writes over something that there is, mostly by what can be.
func (m *machine) spoil(p *paper) {
	things := m.x.Mover().Things()
	slot := things[m.r.below(len(things))]
	switch m.r.below(10) {
	case 0:
		p.bytes[m.r.below(geo.Size(p.geo)*api.Block)] = byte(m.r.below(256))
	case 1, 2:
		m.spoilInode(p, slot)
	case 3, 4:
		m.spoilHead(p)
	case 5, 6:
		m.spoilEntry(p, slot)
	case 7:
		m.spoilTree(p)
	case 8:
		if own, _ := m.files().Owned(slot); len(own) > 0 {
			p.at(own[m.r.below(len(own))])[m.r.below(api.Block)] ^= byte(1 << m.r.below(8))
		}
	default:
		i, _ := m.files().Get(slot)
		if kind, _ := geo.Kind(p.geo, i.In); kind == geo.Data {
			p.call(i.In, m.r.below(api.Ptrs), uint32(m.r.below(2)*m.r.below(geo.Size(p.geo))))
		}
	}
}

// spoilInode makes another inode of a slot's.
func (m *machine) spoilInode(p *paper, slot int) {
	r := m.r
	b, place, _ := geo.Place(p.geo, slot)
	i, e := inode.Read(p.at(b), place)
	if e != api.OK {
		return
	}
	switch r.below(6) {
	case 0:
		i.Links += r.below(3) - 1
	case 1:
		i.Size = max(i.Size+int64(r.below(3)-1)*int64(1+r.below(300)), 0)
	case 2:
		*field(&i, r.below(8)) = r.below(geo.Size(p.geo))
	case 3:
		*field(&i, r.below(8)) = 0
	case 4:
		i.Kind = 1 + r.below(3)
	default:
		i.Id = int64(1 + r.below(9))
	}
	if whole, e := inode.Lay(p.at(b), place, i); e == api.OK {
		copy(p.at(b), whole)
	}
}

// spoilHead sets a block or a slot in its header, or not.
func (m *machine) spoilHead(p *paper) {
	k := m.r.below(p.geo.Groups)
	b, _ := geo.Head(p.geo, k)
	h, e := group.Get(p.geo, p.at(b))
	if e != api.OK {
		return
	}
	on := m.r.below(2) == 0
	if m.r.below(2) == 0 {
		h, e = group.UseBlock(p.geo, h, m.r.below(p.geo.Group), on)
	} else {
		h, e = group.UseSlot(p.geo, h, m.r.below(p.geo.Inodes), on)
	}
	if whole, no := group.Put(p.geo, h); e == api.OK && no == api.OK {
		copy(p.at(b), whole)
	}
}

// spoilEntry makes another entry of one in a slot's directory, if it is one.
func (m *machine) spoilEntry(p *paper, slot int) {
	own, _ := m.files().Owned(slot)
	if i, _ := m.files().Get(slot); i.Kind != api.Dir || len(own) == 0 {
		return
	}
	b, place := own[m.r.below(len(own))], m.r.below(api.PerDir)
	entry, e := dirent.Read(p.at(b), place)
	if e != api.OK {
		return
	}
	switch m.r.below(4) {
	case 0:
		entry = api.Entry{}
	case 1:
		entry.Slot = m.r.below(geo.Slots(p.geo) + 2)
	case 2:
		entry.Leaving = !entry.Leaving
	default:
		entry.Name = string(rune('a' + m.r.below(5)))
	}
	if whole, e := dirent.Lay(p.at(b), place, entry); e == api.OK {
		copy(p.at(b), whole)
	}
}

// spoilTree lets a directory's entry stand in another directory, that may be below it.
func (m *machine) spoilTree(p *paper) {
	var dirs []int
	for _, slot := range m.x.Mover().Things() {
		if i, _ := m.files().Get(slot); i.Kind == api.Dir && i.P[0] != 0 {
			dirs = append(dirs, i.P[0])
		}
	}
	if len(dirs) == 0 {
		return
	}
	from, to := dirs[m.r.below(len(dirs))], dirs[m.r.below(len(dirs))]
	all, places, _ := dirent.List(p.at(from))
	for n, e := range all {
		room := dirent.Room(p.at(to))
		if i, _ := m.files().Get(e.Slot); i.Kind == api.Dir && room >= 0 {
			p.entry(from, places[n], api.Entry{})
			e.Name += "x"
			p.entry(to, room, e)
			return
		}
	}
}

// P26.1: whatever is written over, it is told as by the words of the chapter, each of which is met.
func TestSpoiled(t *testing.T) {
	r := dice(1618033988)
	met := map[string]int{}
	for range 60 {
		m := newMachine(t, &r)
		for range 150 {
			m.call()
			if r.below(4) == 0 {
				m.works()
			}
		}
		for fd := range api.MaxOpen {
			m.fs().Close(fd)
		}
		m.sync().Sync()
		for range 120 {
			p := paperOf(t, m.d, m.volume().Geo())
			for range 1 + r.below(2) {
				m.spoil(p)
			}
			want, errno, why := modelled(p.bytes)
			met[why]++
			if got, e := check.Whole(p.disk()); got != want || e != errno {
				t.Fatalf("%+v, %d, not %+v, %d: %s", got, e, want, errno, why)
			}
		}
	}
	for _, what := range []string{"whole", "headers", "inodes", "root", "numbers", "data", "twice", "behind", "tail", "entries", "directories", "files", "links", "way", "slots", "blocks"} {
		if met[what] < 5 {
			t.Errorf("%s: %d times", what, met[what])
		}
	}
}

// P26.1, P6: whatever bytes stand behind a superblock, or instead of one, Whole ends, and tells what the words say.
func TestAnyBytes(t *testing.T) {
	r := dice(1414213562)
	for range 300 {
		g := api.Geo{Group: 16 + r.below(112), Inodes: 4 * (1 + r.below(3)), Groups: 1 + r.below(16)}
		p := paperOf(t, formatted(t, geo.Size(g)+r.below(9), g), g)
		from := r.below(3)
		for range []int{1, 3, 20}[r.below(3)] {
			b := from + r.below(len(p.bytes)/api.Block-from)
			for at := range api.Block {
				p.at(b)[at] = byte(r.below(256))
			}
		}
		want, errno, why := modelled(p.bytes)
		if got, e := check.Whole(p.disk()); got != want || e != errno {
			t.Fatalf("%+v, %d, not %+v, %d: %s", got, e, want, errno, why)
		}
	}
}

// P6: things that name each other's blocks, and their own, in all their names: it ends at once.
func TestNamesOfAll(t *testing.T) {
	g := api.Geo{Group: 128, Inodes: 64, Groups: 16}
	p := paperOf(t, formatted(t, geo.Size(g), g), g)
	first, _ := geo.Range(g, 0)
	for at := range api.Ptrs {
		p.call(first, at, uint32(first))
	}
	for slot := 2; slot < geo.Slots(g); slot++ {
		p.inode(slot, func(i *api.Inode) {
			*i = api.Inode{Kind: api.Dir, Links: 1, Size: api.MaxFile * api.Block, Id: int64(slot), Din: first}
		})
	}
	tells(t, "all names name one block", p.disk(), check.Report{}, api.ErrForm)
}
