package fsck_test

import (
	"bytes"
	"fmt"
	"maps"
	"slices"
	"strings"
	"testing"

	"levee/api"
	"levee/defrag"
	"levee/disk"
	"levee/file"
	"levee/fs"
	"levee/fsck"
	"levee/grow"
	"levee/imove"
	"levee/move"
	"levee/shrink"
	"levee/super"
	"levee/sync"
	"levee/vol"
)

// dice gives the same numbers below n in every run.
type dice uint32

func (d *dice) below(n int) int {
	*d ^= *d << 13
	*d ^= *d >> 17
	*d ^= *d << 5
	return int(uint32(*d) % uint32(n))
}

// seen is a thing, as it is found.
type seen struct {
	kind  int
	size  int64
	names map[string]int64 // of a directory: the numbers of what they name
	bytes []byte           // of a file or a link
}

// once is what a thing was, since it was made safe last.
type once struct {
	kind  int
	had   []string // a directory's names, or sizes
	bytes [][]byte
}

// said is what a thing is, as a text: a directory's names, or a size.
func (s seen) said() string {
	if s.kind != api.Dir {
		return fmt.Sprint(s.size)
	}
	return named(s.names)
}

func named(names map[string]int64) string {
	var b strings.Builder
	for _, name := range slices.Sorted(maps.Keys(names)) {
		fmt.Fprintf(&b, "%s=%d ", name, names[name])
	}
	return b.String()
}

func (o *once) add(said string, bytes []byte) {
	if !slices.Contains(o.had, said) {
		o.had = append(o.had, said)
	}
	if len(o.bytes) == 0 || string(o.bytes[len(o.bytes)-1]) != string(bytes) {
		o.bytes = append(o.bytes, bytes)
	}
}

// machine is a file system, and all that it was since all was safe.
type machine struct {
	t     *testing.T
	r     *dice
	d     *disk.Disk
	x     *imove.Slots
	g     *grow.Grow
	s     *shrink.Shrink
	k     *defrag.Defrag
	now   map[int64]seen
	once  map[int64]*once
	keeps map[int64]bool // what had a name when all was safe, and ever since
	old   super.Super    // that holds, if no newer one was written
	next  api.Geo        // that of a newer one, if there is one on its way
	calls map[string]int
	log   []string
}

// newMachine is a machine with a new volume, on a disk of so many blocks.
func newMachine(t *testing.T, r *dice, blocks int, g api.Geo) *machine {
	t.Helper()
	m := &machine{t: t, r: r, d: formatted(t, blocks, g), calls: map[string]int{}}
	m.mount()
	return m
}

// mount lets the machine be up; all that there is is safe.
func (m *machine) mount() {
	m.t.Helper()
	f, e := fs.Mount(m.d)
	answers(m.t, "Mount", e, api.OK)
	m.x = imove.New(move.New(sync.New(f)))
	m.g, m.s, m.k = grow.New(m.x), shrink.New(m.x), defrag.New(m.x)
	m.now = look(m.x)
	m.safe()
	m.shaped()
}

// shaped is a volume that surely has its shape.
func (m *machine) shaped() {
	m.old = super.Super{Gen: m.volume().Gen(), Geo: m.volume().Geo()}
	m.next = api.Geo{}
}

func (m *machine) sync() *sync.Sync { return m.x.Mover().Sync() }

func (m *machine) fs() *fs.Fs { return m.sync().Fs() }

func (m *machine) files() *file.Files { return m.fs().Nodes().Tree().Dirs().Files() }

func (m *machine) volume() *vol.Vol { return m.files().Alloc().Vol() }

// look tells of all things there are, open ones without a name too.
func look(x *imove.Slots) map[int64]seen {
	all := map[int64]seen{}
	ids := map[int]int64{}
	nodes := x.Mover().Sync().Fs().Nodes()
	files := nodes.Tree().Dirs().Files()
	for _, slot := range x.Mover().Things() {
		i, _ := files.Get(slot)
		ids[slot] = i.Id
		s := seen{kind: i.Kind, size: i.Size, names: map[string]int64{}}
		for off := int64(0); off < i.Size && i.Kind != api.Dir; off += api.MaxIO {
			b, _ := files.Read(slot, off, api.MaxIO)
			s.bytes = append(s.bytes, b...)
		}
		all[i.Id] = s
	}
	for slot, id := range ids {
		list, _ := nodes.Tree().Dirs().List(slot)
		for _, e := range list {
			all[id].names[e.Name] = ids[e.Slot]
		}
	}
	return all
}

// have are the numbers of all things that have names.
func have(all map[int64]seen) map[int64]bool {
	some := map[int64]bool{vol.Root: true}
	for _, s := range all {
		for _, id := range s.names {
			some[id] = true
		}
	}
	return some
}

// safe is a Sync: what was ahead of it does not come again.
func (m *machine) safe() {
	m.once = map[int64]*once{}
	for id, s := range m.now {
		m.once[id] = &once{kind: s.kind}
		m.once[id].add(s.said(), s.bytes)
	}
	m.keeps = have(m.now)
}

// watch looks at what a call made of all things. Of a rename in one directory the new name, and then the old one no more, are two times.
func (m *machine) watch() {
	was := m.now
	m.now = look(m.x)
	for id, s := range m.now {
		if m.once[id] == nil {
			m.once[id] = &once{kind: s.kind}
		}
		if s.kind == api.Dir {
			both := maps.Clone(s.names)
			for name, of := range was[id].names {
				if _, there := s.names[name]; !there {
					both[name] = of
				}
			}
			if len(both) > len(s.names) && named(both) != named(was[id].names) {
				m.once[id].add(named(both), nil)
			}
		}
		m.once[id].add(s.said(), s.bytes)
	}
	still := have(m.now)
	maps.DeleteFunc(m.keeps, func(id int64, _ bool) bool { return !still[id] })
}

// path is some path, mostly of what is there.
func (m *machine) path() string {
	at, path := int64(vol.Root), ""
	for range 1 + m.r.below(4) {
		here := m.now[at].names
		if len(here) > 0 && m.r.below(4) > 0 {
			name := slices.Sorted(maps.Keys(here))[m.r.below(len(here))]
			path += "/" + name
			at = here[name]
			if m.now[at].kind != api.Dir || m.r.below(3) == 0 {
				return path
			}
			continue
		}
		return path + "/" + string(rune('a'+m.r.below(10)))
	}
	return path
}

// fresh is some path of which nothing is there, mostly.
func (m *machine) fresh() string {
	path := m.path()
	return path[:strings.LastIndex(path, "/")+1] + string(rune('a'+m.r.below(12)))
}

// did remembers a call, and what it answered.
func (m *machine) did(what string, e api.Errno) {
	m.calls[fmt.Sprint(strings.SplitN(what, " ", 2)[0], " ", e)]++
	m.log = append(m.log, fmt.Sprint(what, ": ", e))
}

// call makes some call of the file system.
func (m *machine) call() {
	f, a, b := m.fs(), m.path(), m.fresh()
	fd := m.r.below(4)
	var e api.Errno
	var what string
	switch k := m.r.below(100); {
	case k < 14:
		what, e = "create "+b, f.Create(b)
	case k < 24:
		what, e = "mkdir "+b, f.Mkdir(b)
	case k < 27:
		what, e = "symlink "+a+" "+b, f.Symlink(a, b)
	case k < 33:
		what, e = "link "+a+" "+b, f.Link(a, b)
	case k < 42:
		what, e = "unlink "+a, f.Unlink(a)
	case k < 49:
		what, e = "rmdir "+a, f.Rmdir(a)
	case k < 66:
		if m.r.below(3) == 0 {
			b = m.path()
		}
		what, e = "rename "+a+" "+b, f.Rename(a, b)
	case k < 73:
		what = "open " + a
		_, e = f.Open(a)
	case k < 77:
		what, e = fmt.Sprint("close ", fd), f.Close(fd)
	case k < 93:
		off, n := int64([]int{0, 100, 256, 1400, 1536, 17900}[m.r.below(6)]+m.r.below(20)), 1+m.r.below(500)
		what, e = fmt.Sprint("write ", fd, off, n), f.Write(fd, off, bytes.Repeat([]byte{byte(1 + m.r.below(255))}, n))
	default:
		size := int64([]int{0, 10, 256, 300, 1536, 1700, 17000, 18000}[m.r.below(8)])
		what, e = fmt.Sprint("truncate ", fd, size), f.Truncate(fd, size)
	}
	m.did(what, e)
	if e == api.OK {
		m.watch()
	}
}

// does does something that changes no answer of any call, but Free.
func (m *machine) does(do func() (string, api.Errno)) {
	what, e := do()
	m.did(what, e)
}

// makes makes some call of Sync.
func (m *machine) makes() (string, api.Errno) {
	s := m.sync()
	switch k := m.r.below(100); {
	case k < 60:
		at := m.r.below(90) - 30
		_, e := s.Write(at)
		return fmt.Sprint("Write ", at), e
	case k < 75:
		_, e := s.Flush()
		return "Flush", e
	case k < 95:
		fd := m.r.below(4)
		_, e := s.Fsync(fd)
		if slot, no := m.fs().Nodes().Slot(fd); no == api.OK && e == api.OK && !m.d.Stopped() {
			i, _ := m.files().Get(slot)
			m.once[i.Id] = &once{kind: i.Kind}
			m.once[i.Id].add(m.now[i.Id].said(), m.now[i.Id].bytes)
		}
		return fmt.Sprint("Fsync ", fd), e
	}
	_, e := s.Sync()
	if e == api.OK && !m.d.Stopped() {
		m.safe()
	}
	return "Sync", e
}

// near is some slot, or block.
func (m *machine) near() int {
	return m.r.below(m.d.Len()) - 1
}

// moves moves some block, or some thing.
func (m *machine) moves() (string, api.Errno) {
	near := m.near()
	if m.r.below(2) == 0 {
		things := m.x.Mover().Things()
		slot := things[m.r.below(len(things))]
		_, e := m.x.Move(slot, near)
		return fmt.Sprint("Move ", slot, near), e
	}
	some := m.x.Mover().Blocks(m.r.below(m.volume().Geo().Groups))
	if len(some) == 0 {
		return "nothing", api.OK
	}
	b := some[m.r.below(len(some))]
	_, e := m.x.Mover().Block(b, near)
	return fmt.Sprint("Block ", b, near), e
}

// lost lets the power of a disk go, with some of what was written there.
func (m *machine) lost(d *disk.Disk) {
	picks := make([]int, len(d.Open()))
	most := []int{1, 2, 4, 100}[m.r.below(4)]
	for i := range picks {
		picks[i] = m.r.below(most)
	}
	d.Crash(picks)
}

// crash lets the power of a copy of the disk go, puts it right, and holds what is found behind that.
func (m *machine) crash() {
	m.t.Helper()
	c := m.d.Copy()
	m.lost(c)
	m.righted(c)
	m.formed(c)
	m.held(c)
}

// newer tells whether the superblock of the shape that is on its way stands on a disk, whole.
func (m *machine) newer(d *disk.Disk) bool {
	next := super.Super{Gen: m.old.Gen + 1, Geo: m.next}
	b, _ := d.Read(int(next.Gen % 2))
	s, e := super.Get(b)
	return e == api.OK && s == next
}

// formed holds the shape of a disk that was put right: the old one; the new one just if its superblock was written whole.
func (m *machine) formed(d *disk.Disk) {
	m.t.Helper()
	must := m.old
	if m.newer(d) {
		must = super.Super{Gen: m.old.Gen + 1, Geo: m.next}
		m.calls["new shape"]++
	}
	v, e := vol.Mount(d)
	if e != api.OK || v.Geo() != must.Geo || v.Gen() != must.Gen {
		m.t.Fatalf("behind a crash the volume is %v, %d, %d, not %v", v.Geo(), v.Gen(), e, must)
	}
}

// sizes makes the volume larger or smaller, or begins with it.
func (m *machine) sizes() (string, api.Errno) {
	var over bool
	var e api.Errno
	what := "sizes"
	switch target := m.g.Target() + m.s.Target(); {
	case target > 0:
		if !m.d.Stopped() {
			m.next = m.volume().Geo()
			m.next.Groups = target
		}
		if what = "smaller"; m.g.Target() > 0 {
			what = "larger"
			over, e = m.g.Step()
		} else {
			over, e = m.s.Step()
		}
	case m.r.below(2) == 0:
		what, e = "grow", m.g.Begin(1+m.r.below(6))
	default:
		what, e = "shrink", m.s.Begin(1+m.r.below(4))
	}
	if over && !m.d.Stopped() {
		if e == api.OK && what == "smaller" {
			m.safe()
		}
		m.shaped()
		what += " over"
	}
	return what, e
}

// orders puts things in order, one with each step.
func (m *machine) orders() (string, api.Errno) {
	if !m.k.Busy() {
		return "order", m.k.Begin()
	}
	_, e := m.k.Step()
	return "ordered", e
}

// righted puts a disk right, the power going at some write or flush of that, once or twice, with any of what was written kept. That comes to the same as if it had not gone.
func (m *machine) righted(d *disk.Disk) {
	m.t.Helper()
	must := d.Copy()
	repairs(m.t, must)
	for range m.r.below(3) {
		all, _, _ := fsck.Plan(d)
		d.Stop(m.r.below(len(all) + 3))
		fsck.Repair(d)
		m.lost(d)
	}
	repairs(m.t, d)
	if !bytes.Equal(d.Bytes(), must.Bytes()) {
		m.t.Error("put right again it is another volume")
	}
}

// held is P2: what is there was so once, and nothing is lost that has had a name all the time.
func (m *machine) held(d *disk.Disk) {
	m.t.Helper()
	all := found(m.t, d)
	for id, s := range all {
		o := m.once[id]
		if o == nil {
			m.t.Errorf("behind a crash there is %d, which was gone when all was safe", id)
			continue
		}
		if s.kind != o.kind || !slices.Contains(o.had, s.said()) {
			m.t.Errorf("behind a crash %d, of the kind %d, has %q: it had %q", id, s.kind, s.said(), o.had)
		}
		m.bytes(id, s, o)
	}
	for id := range m.keeps {
		if _, there := all[id]; !there {
			m.t.Errorf("behind a crash %d is lost", id)
		}
	}
}

// bytes holds each byte of a file or a link: it stood there once, or is 0 where there was none.
func (m *machine) bytes(id int64, s seen, o *once) {
	m.t.Helper()
	for at, b := range s.bytes {
		if !slices.ContainsFunc(o.bytes, func(was []byte) bool { return at < len(was) && was[at] == b || at >= len(was) && b == 0 }) {
			m.t.Errorf("behind a crash the byte %d of %d is %x", at, id, b)
			return
		}
	}
}

// often holds that calls were made, with these answers, ten times at least.
func often(t *testing.T, calls map[string]int, some ...string) {
	t.Helper()
	for _, what := range some {
		if calls[what] < 10 {
			t.Errorf("%s: %d times", what, calls[what])
		}
	}
}
