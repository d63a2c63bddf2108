package move_test

import (
	"bytes"
	"fmt"
	"maps"
	"slices"
	"strings"
	"testing"

	"levee/api"
	"levee/disk"
	"levee/geo"
	"levee/move"
	"levee/sync"
	"levee/vol"
)

// dice gives the same numbers below n in every run.
type dice uint32

func (d *dice) below(n int) int {
	*d ^= *d << 13
	*d ^= *d >> 17
	*d ^= *d << 5
	return int(uint32(*d) % uint32(n))
}

// tells is all that a file system answers, but Free, as a text.
func tells(t *testing.T, v *move.Mover) string {
	t.Helper()
	var b strings.Builder
	for fd := range api.MaxOpen {
		stat, e := v.Sync().Fs().Fstat(fd)
		bytes, _ := v.Sync().Fs().Read(fd, 0, api.MaxIO)
		fmt.Fprintf(&b, "%d %v %d %q\n", fd, stat, e, bytes)
	}
	return tree(t, v) + b.String()
}

// tree is all names, and what they name, as a text.
func tree(t *testing.T, v *move.Mover) string {
	t.Helper()
	var b strings.Builder
	f := v.Sync().Fs()
	var below func(path string)
	below = func(path string) {
		items, e := f.Readdir(path + "/")
		if e != api.OK {
			t.Errorf("Readdir(%q): %d", path, e)
		}
		for _, item := range items {
			at := path + "/" + item.Name
			stat, e := f.Stat(at, false)
			link, _ := f.Readlink(at)
			bytes, _ := files(v).Read(slot(t, v, at), 0, api.MaxIO)
			fmt.Fprintf(&b, "%q %v %d %q ", at, stat, e, link)
			switch stat.Kind {
			case api.Dir:
				b.WriteString("\n")
				below(at)
			default:
				fmt.Fprintf(&b, "%q\n", bytes)
			}
		}
	}
	below("")
	return b.String()
}

// once is what a thing was, since it was made safe last.
type once struct {
	kind  int
	had   []string // a directory's names, or sizes
	bytes [][]byte
}

// said is what a thing is, as a text: a directory's names, or a size.
func (s seen) said() string {
	if s.kind != api.Dir {
		return fmt.Sprint(s.size)
	}
	return named(s.names)
}

func named(names map[string]int64) string {
	var b strings.Builder
	for _, name := range slices.Sorted(maps.Keys(names)) {
		fmt.Fprintf(&b, "%s=%d ", name, names[name])
	}
	return b.String()
}

func (o *once) add(said string, bytes []byte) {
	if !slices.Contains(o.had, said) {
		o.had = append(o.had, said)
	}
	if len(o.bytes) == 0 || string(o.bytes[len(o.bytes)-1]) != string(bytes) {
		o.bytes = append(o.bytes, bytes)
	}
}

// machine is a file system, and all that it was since all was safe.
type machine struct {
	t     *testing.T
	r     *dice
	d     *disk.Disk
	v     *move.Mover
	s     *sync.Sync
	now   map[int64]seen
	once  map[int64]*once
	keeps map[int64]bool // what had a name when all was safe, and ever since
	calls map[string]int
	log   []string
}

func newMachine(t *testing.T, r *dice, g api.Geo) *machine {
	t.Helper()
	d := formatted(t, g)
	m := &machine{t: t, r: r, d: d, v: mounted(t, d), calls: map[string]int{}}
	m.s = m.v.Sync()
	m.now = m.look()
	m.safe()
	return m
}

// look tells of all things there are, open ones without a name too.
func (m *machine) look() map[int64]seen {
	all := map[int64]seen{}
	ids := map[int]int64{}
	for slot := 1; slot < geo.Slots(volume(m.v).Geo()); slot++ {
		i, e := files(m.v).Get(slot)
		if e != api.OK || i.Kind == api.Free {
			continue
		}
		ids[slot] = i.Id
		s := seen{kind: i.Kind, size: i.Size, names: map[string]int64{}}
		for off := int64(0); off < i.Size && i.Kind != api.Dir; off += api.MaxIO {
			b, _ := files(m.v).Read(slot, off, api.MaxIO)
			s.bytes = append(s.bytes, b...)
		}
		all[i.Id] = s
	}
	for slot, id := range ids {
		list, _ := m.s.Fs().Nodes().Tree().Dirs().List(slot)
		for _, e := range list {
			all[id].names[e.Name] = ids[e.Slot]
		}
	}
	return all
}

// names are the numbers of all things that have names.
func names(all map[int64]seen) map[int64]bool {
	have := map[int64]bool{vol.Root: true}
	for _, s := range all {
		for _, id := range s.names {
			have[id] = true
		}
	}
	return have
}

// safe is a Sync: what was ahead of it does not come again.
func (m *machine) safe() {
	m.once = map[int64]*once{}
	for id, s := range m.now {
		m.once[id] = &once{kind: s.kind}
		m.once[id].add(s.said(), s.bytes)
	}
	m.keeps = names(m.now)
}

// watch looks at what a call made of all things. Of a rename in one directory the new name, and then the old one no more, are two times.
func (m *machine) watch() {
	was := m.now
	m.now = m.look()
	for id, s := range m.now {
		if m.once[id] == nil {
			m.once[id] = &once{kind: s.kind}
		}
		if s.kind == api.Dir {
			both := maps.Clone(s.names)
			for name, of := range was[id].names {
				if _, there := s.names[name]; !there {
					both[name] = of
				}
			}
			if len(both) > len(s.names) && named(both) != named(was[id].names) {
				m.once[id].add(named(both), nil)
			}
		}
		m.once[id].add(s.said(), s.bytes)
	}
	have := names(m.now)
	maps.DeleteFunc(m.keeps, func(id int64, _ bool) bool { return !have[id] })
}

// path is some path, mostly of what is there.
func (m *machine) path() string {
	at, path := int64(vol.Root), ""
	for range 1 + m.r.below(4) {
		here := m.now[at].names
		if len(here) > 0 && m.r.below(4) > 0 {
			name := slices.Sorted(maps.Keys(here))[m.r.below(len(here))]
			path += "/" + name
			at = here[name]
			if m.now[at].kind != api.Dir || m.r.below(3) == 0 {
				return path
			}
			continue
		}
		return path + "/" + string(rune('a'+m.r.below(10)))
	}
	return path
}

// fresh is some path of which nothing is there, mostly.
func (m *machine) fresh() string {
	path := m.path()
	return path[:strings.LastIndex(path, "/")+1] + string(rune('a'+m.r.below(12)))
}

// call makes some call of the file system.
func (m *machine) call() {
	f, a, b := m.s.Fs(), m.path(), m.fresh()
	fd := m.r.below(4)
	var e api.Errno
	var what string
	switch k := m.r.below(100); {
	case k < 14:
		what, e = "create "+b, f.Create(b)
	case k < 24:
		what, e = "mkdir "+b, f.Mkdir(b)
	case k < 27:
		what, e = "symlink "+a+" "+b, f.Symlink(a, b)
	case k < 33:
		what, e = "link "+a+" "+b, f.Link(a, b)
	case k < 42:
		what, e = "unlink "+a, f.Unlink(a)
	case k < 49:
		what, e = "rmdir "+a, f.Rmdir(a)
	case k < 68:
		if m.r.below(3) == 0 {
			b = m.path()
		}
		what, e = "rename "+a+" "+b, f.Rename(a, b)
	case k < 74:
		what = "open " + a
		_, e = f.Open(a)
	case k < 78:
		what, e = fmt.Sprint("close ", fd), f.Close(fd)
	case k < 93:
		off, n := int64([]int{0, 100, 256, 1400, 1536, 17900}[m.r.below(6)]+m.r.below(20)), 1+m.r.below(500)
		what, e = fmt.Sprint("write ", fd, off, n), f.Write(fd, off, bytes.Repeat([]byte{byte(1 + m.r.below(255))}, n))
	default:
		size := int64([]int{0, 10, 256, 300, 1536, 1700, 17000, 18000}[m.r.below(8)])
		what, e = fmt.Sprint("truncate ", fd, size), f.Truncate(fd, size)
	}
	m.calls[fmt.Sprint(strings.SplitN(what, " ", 2)[0], " ", e)]++
	m.log = append(m.log, fmt.Sprint(what, ": ", e))
	if e == api.OK {
		m.watch()
	}
}

// makes makes some call of Sync: it changes no answer, but Free.
func (m *machine) makes() {
	m.t.Helper()
	was := tells(m.t, m.v)
	what, n, e := "", 0, api.OK
	switch k := m.r.below(100); {
	case k < 60:
		at := m.r.below(90) - 30
		what = fmt.Sprint("Write ", at)
		n, e = m.s.Write(at)
	case k < 75:
		what = "Flush"
		n, e = m.s.Flush()
	case k < 95:
		fd := m.r.below(4)
		what = fmt.Sprint("Fsync ", fd)
		slot, _ := m.s.Fs().Nodes().Slot(fd)
		i, _ := files(m.v).Get(slot)
		if n, e = m.s.Fsync(fd); e == api.OK && !m.d.Stopped() {
			s := m.now[i.Id]
			m.once[i.Id] = &once{kind: s.kind}
			m.once[i.Id].add(s.said(), s.bytes)
		}
	default:
		what = "Sync"
		if n, e = m.s.Sync(); e == api.OK && !m.d.Stopped() {
			m.safe()
		}
		if !m.s.Quiet() || m.s.Dirty() != 0 || e != api.OK {
			m.t.Errorf("Sync: %d, %d", n, e)
		}
	}
	m.calls[fmt.Sprint(strings.SplitN(what, " ", 2)[0], " ", e)]++
	m.log = append(m.log, fmt.Sprint(what, ": ", n, e))
	if e != api.OK && n != 0 {
		m.t.Errorf("%s: %d, %d", what, n, e)
	}
	if now := tells(m.t, m.v); now != was {
		m.t.Errorf("%s changed what is told:\n%s\nnot\n%s", what, now, was)
	}
}

// crash lets the power of a copy of the disk go, with some of what was written there.
func (m *machine) crash() {
	m.t.Helper()
	c := m.d.Copy()
	picks := make([]int, len(c.Open()))
	most := []int{1, 2, 4, 100}[m.r.below(4)]
	for i := range picks {
		picks[i] = m.r.below(most)
	}
	c.Crash(picks)
	m.held(c)
}

// held is P2: what is there was so once, and nothing is lost that has had a name all the time.
func (m *machine) held(d *disk.Disk) {
	m.t.Helper()
	all := found(m.t, d)
	for id, s := range all {
		o := m.once[id]
		if o == nil {
			m.t.Errorf("behind a crash there is %d, which was gone when all was safe", id)
			continue
		}
		if s.kind != o.kind || !slices.Contains(o.had, s.said()) {
			m.t.Errorf("behind a crash %d, of the kind %d, has %q: it had %q", id, s.kind, s.said(), o.had)
		}
		m.bytes(id, s, o)
	}
	for id := range m.keeps {
		if _, there := all[id]; !there {
			m.t.Errorf("behind a crash %d is lost", id)
		}
	}
}

// bytes holds each byte of a file or a link: it stood there once, or is 0 where there was none.
func (m *machine) bytes(id int64, s seen, o *once) {
	m.t.Helper()
	for at, b := range s.bytes {
		if !slices.ContainsFunc(o.bytes, func(was []byte) bool { return at < len(was) && was[at] == b || at >= len(was) && b == 0 }) {
			m.t.Errorf("behind a crash the byte %d of %d is %x", at, id, b)
			return
		}
	}
}

// near is some block, mostly one of data.
func (m *machine) near() int {
	if m.r.below(10) == 0 {
		return far[m.r.below(len(far))]
	}
	return m.r.below(m.d.Len())
}

// moves moves some block, mostly one that is owned: that changes no answer, but Free.
func (m *machine) moves() {
	m.t.Helper()
	was := tells(m.t, m.v)
	g := volume(m.v).Geo()
	some := m.v.Blocks(m.r.below(g.Groups))
	b, near := m.near(), m.near()
	if len(some) > 0 && m.r.below(6) > 0 {
		b = some[m.r.below(len(some))]
	}
	owner, owned := m.v.Owner(b)
	data, _ := volume(m.v).Data(b)
	free, _ := m.s.Fs().Free()
	open, waits := store(m.v).Open(), volume(m.v).Work().Len()
	to, e := m.v.Block(b, near)
	m.calls[fmt.Sprint("Block ", e)]++
	m.log = append(m.log, fmt.Sprint("Block ", b, near, ": ", to, e))
	switch {
	case owned != api.OK && e != owned || owned == api.OK && (e == api.ErrSpace) != (free == 0):
		m.t.Errorf("Block(%d, %d): %d, %d", b, near, to, e)
	case e != api.OK && (to != 0 || store(m.v).Open() != open || volume(m.v).Work().Len() != waits):
		m.t.Errorf("Block(%d, %d) is refused, and changes something", b, near)
	case e == api.OK:
		_, k := geo.Kind(g, to)
		if now, e := m.v.Owner(to); now != owner || e != api.OK || blocks(m.v).Frozen(k) {
			m.t.Errorf("Owner(%d): %d, %d, not %d", to, now, e, owner)
		}
		if _, e := m.v.Owner(b); e != api.ErrNone || !blocks(m.v).Taken(b) {
			m.t.Errorf("Owner(%d): %d", b, e)
		}
		if now, _ := volume(m.v).Data(to); !bytes.Equal(now, data) {
			m.t.Errorf("%d has other bytes than %d", to, b)
		}
	}
	if now := tells(m.t, m.v); now != was {
		m.t.Errorf("Block(%d, %d) changed what is told:\n%s\nnot\n%s", b, near, now, was)
	}
}

// freezes lets some group be frozen, or not.
func (m *machine) freezes() {
	k, on := m.r.below(volume(m.v).Geo().Groups), m.r.below(2) == 0
	blocks(m.v).Freeze(k, on)
	m.log = append(m.log, fmt.Sprint("Freeze ", k, on))
}

// step makes some call.
func (m *machine) step() {
	m.t.Helper()
	switch k := m.r.below(100); {
	case k < 40:
		m.call()
	case k < 70:
		m.makes()
	case k < 98:
		m.moves()
	default:
		m.freezes()
	}
}

// whole holds that just what is owned is taken, with all safe, and nothing open that has no name.
func (m *machine) whole() {
	m.t.Helper()
	for fd := range api.MaxOpen {
		m.s.Fs().Close(fd)
	}
	if n, e := m.s.Sync(); e != api.OK || !m.s.Quiet() {
		m.t.Errorf("Sync: %d, %d", n, e)
	}
	for k := range volume(m.v).Geo().Groups {
		own, slots := m.v.Blocks(k), m.v.Slots(k)
		if b, s, e := blocks(m.v).Used(k); b != len(own) || s != len(slots) || e != api.OK || m.v.Waits(k) != 0 {
			m.t.Errorf("in the group %d %d blocks and %d slots are taken, %d and %d are things'", k, b, s, len(own), len(slots))
		}
		if slices.ContainsFunc(own, func(b int) bool { return !blocks(m.v).Taken(b) }) {
			m.t.Errorf("in the group %d a block is owned, and not taken", k)
		}
	}
	m.now = m.look()
	m.safe()
	m.crash()
}

// P21.3, P21.4 (P1, P2): any calls, with blocks moved between, and the power gone behind each.
func TestAnyCalls(t *testing.T) {
	r := dice(2463534242)
	calls := map[string]int{}
	for run := range 40 {
		m := newMachine(t, &r, api.Geo{Group: 24 + r.below(60), Inodes: []int{8, 16, 24}[r.below(3)], Groups: 1 + r.below(3)})
		for step := range 300 {
			m.step()
			m.crash()
			m.crash()
			if t.Failed() {
				t.Fatalf("run %d, step %d:\n%s", run, step, strings.Join(m.log, "\n"))
			}
		}
		m.whole()
		for what, n := range m.calls {
			calls[what] += n
		}
	}
	for _, what := range []string{"create 0", "mkdir 0", "link 0", "unlink 0", "rmdir 0", "rename 0", "write 0", "truncate 0", "Write 0", "Flush 0", "Fsync 0", "Sync 0", "Block 0", "Block 3", "Block 20", "Block 26"} {
		if calls[what] < 10 {
			t.Errorf("%s: %d times", what, calls[what])
		}
	}
}

// P21.3 (P2): blocks are moved, and then the disk stops at each of its writes and flushes while all is made safe.
func TestEachStop(t *testing.T) {
	for seed := range 8 {
		for stop := 0; ; stop++ {
			r := dice(31337 + 17*seed)
			m := newMachine(t, &r, api.Geo{Group: 60, Inodes: 16, Groups: 1 + seed%2})
			for range 40 {
				m.step()
			}
			m.s.Sync()
			m.safe()
			for k := range volume(m.v).Geo().Groups {
				for _, b := range m.v.Blocks(k) {
					m.v.Block(b, m.near())
				}
			}
			for range 10 {
				m.call()
				m.moves()
			}
			m.d.Stop(stop)
			m.s.Sync()
			ended := !m.d.Stopped()
			for range 3 {
				m.crash()
			}
			if t.Failed() {
				t.Fatalf("seed %d, stopped at %d:\n%s", seed, stop, strings.Join(m.log, "\n"))
			}
			if ended {
				break
			}
		}
	}
}
