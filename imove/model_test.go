package imove_test

import (
	"bytes"
	"fmt"
	"maps"
	"slices"
	"strings"
	"testing"

	"levee/api"
	"levee/disk"
	"levee/geo"
	"levee/imove"
	"levee/move"
	"levee/sync"
	"levee/vol"
)

// dice gives the same numbers below n in every run.
type dice uint32

func (d *dice) below(n int) int {
	*d ^= *d << 13
	*d ^= *d >> 17
	*d ^= *d << 5
	return int(uint32(*d) % uint32(n))
}

// tells is all that a file system answers, but Free, as a text.
func tells(t *testing.T, v *imove.Slots) string {
	t.Helper()
	var b strings.Builder
	for fd := range api.MaxOpen {
		stat, e := v.Mover().Sync().Fs().Fstat(fd)
		bytes, _ := v.Mover().Sync().Fs().Read(fd, 0, api.MaxIO)
		fmt.Fprintf(&b, "%d %v %d %q\n", fd, stat, e, bytes)
	}
	return tree(t, v) + b.String()
}

// tree is all names, and what they name, as a text.
func tree(t *testing.T, v *imove.Slots) string {
	t.Helper()
	var b strings.Builder
	f := v.Mover().Sync().Fs()
	var below func(path string)
	below = func(path string) {
		items, e := f.Readdir(path + "/")
		if e != api.OK {
			t.Errorf("Readdir(%q): %d", path, e)
		}
		for _, item := range items {
			at := path + "/" + item.Name
			stat, e := f.Stat(at, false)
			link, _ := f.Readlink(at)
			bytes, _ := files(v).Read(slot(t, v, at), 0, api.MaxIO)
			fmt.Fprintf(&b, "%q %v %d %q ", at, stat, e, link)
			switch stat.Kind {
			case api.Dir:
				b.WriteString("\n")
				below(at)
			default:
				fmt.Fprintf(&b, "%q\n", bytes)
			}
		}
	}
	below("")
	return b.String()
}

// once is what a thing was, since it was made safe last.
type once struct {
	kind  int
	had   []string // a directory's names, or sizes
	bytes [][]byte
}

// said is what a thing is, as a text: a directory's names, or a size.
func (s seen) said() string {
	if s.kind != api.Dir {
		return fmt.Sprint(s.size)
	}
	return named(s.names)
}

func named(names map[string]int64) string {
	var b strings.Builder
	for _, name := range slices.Sorted(maps.Keys(names)) {
		fmt.Fprintf(&b, "%s=%d ", name, names[name])
	}
	return b.String()
}

func (o *once) add(said string, bytes []byte) {
	if !slices.Contains(o.had, said) {
		o.had = append(o.had, said)
	}
	if len(o.bytes) == 0 || string(o.bytes[len(o.bytes)-1]) != string(bytes) {
		o.bytes = append(o.bytes, bytes)
	}
}

// machine is a file system, and all that it was since all was safe.
type machine struct {
	t     *testing.T
	r     *dice
	d     *disk.Disk
	x     *imove.Slots
	v     *move.Mover
	s     *sync.Sync
	now   map[int64]seen
	once  map[int64]*once
	keeps map[int64]bool // what had a name when all was safe, and ever since
	calls map[string]int
	log   []string
}

func newMachine(t *testing.T, r *dice, g api.Geo) *machine {
	t.Helper()
	d := formatted(t, g)
	m := &machine{t: t, r: r, d: d, x: mounted(t, d), calls: map[string]int{}}
	m.v = m.x.Mover()
	m.s = m.v.Sync()
	m.now = m.look()
	m.safe()
	return m
}

// look tells of all things there are, open ones without a name too.
func (m *machine) look() map[int64]seen {
	all := map[int64]seen{}
	ids := map[int]int64{}
	for slot := 1; slot < geo.Slots(volume(m.x).Geo()); slot++ {
		i, e := files(m.x).Get(slot)
		if e != api.OK || i.Kind == api.Free {
			continue
		}
		ids[slot] = i.Id
		s := seen{kind: i.Kind, size: i.Size, names: map[string]int64{}}
		for off := int64(0); off < i.Size && i.Kind != api.Dir; off += api.MaxIO {
			b, _ := files(m.x).Read(slot, off, api.MaxIO)
			s.bytes = append(s.bytes, b...)
		}
		all[i.Id] = s
	}
	for slot, id := range ids {
		list, _ := m.s.Fs().Nodes().Tree().Dirs().List(slot)
		for _, e := range list {
			all[id].names[e.Name] = ids[e.Slot]
		}
	}
	return all
}

// have are the numbers of all things that have names.
func have(all map[int64]seen) map[int64]bool {
	some := map[int64]bool{vol.Root: true}
	for _, s := range all {
		for _, id := range s.names {
			some[id] = true
		}
	}
	return some
}

// safe is a Sync: what was ahead of it does not come again.
func (m *machine) safe() {
	m.once = map[int64]*once{}
	for id, s := range m.now {
		m.once[id] = &once{kind: s.kind}
		m.once[id].add(s.said(), s.bytes)
	}
	m.keeps = have(m.now)
}

// watch looks at what a call made of all things. Of a rename in one directory the new name, and then the old one no more, are two times.
func (m *machine) watch() {
	was := m.now
	m.now = m.look()
	for id, s := range m.now {
		if m.once[id] == nil {
			m.once[id] = &once{kind: s.kind}
		}
		if s.kind == api.Dir {
			both := maps.Clone(s.names)
			for name, of := range was[id].names {
				if _, there := s.names[name]; !there {
					both[name] = of
				}
			}
			if len(both) > len(s.names) && named(both) != named(was[id].names) {
				m.once[id].add(named(both), nil)
			}
		}
		m.once[id].add(s.said(), s.bytes)
	}
	still := have(m.now)
	maps.DeleteFunc(m.keeps, func(id int64, _ bool) bool { return !still[id] })
}

// path is some path, mostly of what is there.
func (m *machine) path() string {
	at, path := int64(vol.Root), ""
	for range 1 + m.r.below(4) {
		here := m.now[at].names
		if len(here) > 0 && m.r.below(4) > 0 {
			name := slices.Sorted(maps.Keys(here))[m.r.below(len(here))]
			path += "/" + name
			at = here[name]
			if m.now[at].kind != api.Dir || m.r.below(3) == 0 {
				return path
			}
			continue
		}
		return path + "/" + string(rune('a'+m.r.below(10)))
	}
	return path
}

// fresh is some path of which nothing is there, mostly.
func (m *machine) fresh() string {
	path := m.path()
	return path[:strings.LastIndex(path, "/")+1] + string(rune('a'+m.r.below(12)))
}

// call makes some call of the file system.
func (m *machine) call() {
	f, a, b := m.s.Fs(), m.path(), m.fresh()
	fd := m.r.below(4)
	var e api.Errno
	var what string
	switch k := m.r.below(100); {
	case k < 14:
		what, e = "create "+b, f.Create(b)
	case k < 24:
		what, e = "mkdir "+b, f.Mkdir(b)
	case k < 27:
		what, e = "symlink "+a+" "+b, f.Symlink(a, b)
	case k < 33:
		what, e = "link "+a+" "+b, f.Link(a, b)
	case k < 42:
		what, e = "unlink "+a, f.Unlink(a)
	case k < 49:
		what, e = "rmdir "+a, f.Rmdir(a)
	case k < 68:
		if m.r.below(3) == 0 {
			b = m.path()
		}
		what, e = "rename "+a+" "+b, f.Rename(a, b)
	case k < 74:
		what = "open " + a
		_, e = f.Open(a)
	case k < 78:
		what, e = fmt.Sprint("close ", fd), f.Close(fd)
	case k < 93:
		off, n := int64([]int{0, 100, 256, 1400, 1536, 17900}[m.r.below(6)]+m.r.below(20)), 1+m.r.below(500)
		what, e = fmt.Sprint("write ", fd, off, n), f.Write(fd, off, bytes.Repeat([]byte{byte(1 + m.r.below(255))}, n))
	default:
		size := int64([]int{0, 10, 256, 300, 1536, 1700, 17000, 18000}[m.r.below(8)])
		what, e = fmt.Sprint("truncate ", fd, size), f.Truncate(fd, size)
	}
	m.calls[fmt.Sprint(strings.SplitN(what, " ", 2)[0], " ", e)]++
	m.log = append(m.log, fmt.Sprint(what, ": ", e))
	if e == api.OK {
		m.watch()
	}
}

// makes makes some call of Sync: it changes no answer, but Free.
func (m *machine) makes() {
	m.t.Helper()
	was := tells(m.t, m.x)
	what, n, e := "", 0, api.OK
	switch k := m.r.below(100); {
	case k < 60:
		at := m.r.below(90) - 30
		what = fmt.Sprint("Write ", at)
		n, e = m.s.Write(at)
	case k < 75:
		what = "Flush"
		n, e = m.s.Flush()
	case k < 95:
		fd := m.r.below(4)
		what = fmt.Sprint("Fsync ", fd)
		slot, _ := m.s.Fs().Nodes().Slot(fd)
		i, _ := files(m.x).Get(slot)
		if n, e = m.s.Fsync(fd); e == api.OK && !m.d.Stopped() {
			s := m.now[i.Id]
			m.once[i.Id] = &once{kind: s.kind}
			m.once[i.Id].add(s.said(), s.bytes)
		}
	default:
		what = "Sync"
		if n, e = m.s.Sync(); e == api.OK && !m.d.Stopped() {
			m.safe()
		}
		if !m.s.Quiet() || m.s.Dirty() != 0 || e != api.OK {
			m.t.Errorf("Sync: %d, %d", n, e)
		}
	}
	m.calls[fmt.Sprint(strings.SplitN(what, " ", 2)[0], " ", e)]++
	m.log = append(m.log, fmt.Sprint(what, ": ", n, e))
	if e != api.OK && n != 0 {
		m.t.Errorf("%s: %d, %d", what, n, e)
	}
	if now := tells(m.t, m.x); now != was {
		m.t.Errorf("%s changed what is told:\n%s\nnot\n%s", what, now, was)
	}
}

// crash lets the power of a copy of the disk go, with some of what was written there.
func (m *machine) crash() {
	m.t.Helper()
	c := m.d.Copy()
	picks := make([]int, len(c.Open()))
	most := []int{1, 2, 4, 100}[m.r.below(4)]
	for i := range picks {
		picks[i] = m.r.below(most)
	}
	c.Crash(picks)
	m.held(c)
}

// held is P2: what is there was so once, and nothing is lost that has had a name all the time.
func (m *machine) held(d *disk.Disk) {
	m.t.Helper()
	all := found(m.t, d)
	for id, s := range all {
		o := m.once[id]
		if o == nil {
			m.t.Errorf("behind a crash there is %d, which was gone when all was safe", id)
			continue
		}
		if s.kind != o.kind || !slices.Contains(o.had, s.said()) {
			m.t.Errorf("behind a crash %d, of the kind %d, has %q: it had %q", id, s.kind, s.said(), o.had)
		}
		m.bytes(id, s, o)
	}
	for id := range m.keeps {
		if _, there := all[id]; !there {
			m.t.Errorf("behind a crash %d is lost", id)
		}
	}
}

// bytes holds each byte of a file or a link: it stood there once, or is 0 where there was none.
func (m *machine) bytes(id int64, s seen, o *once) {
	m.t.Helper()
	for at, b := range s.bytes {
		if !slices.ContainsFunc(o.bytes, func(was []byte) bool { return at < len(was) && was[at] == b || at >= len(was) && b == 0 }) {
			m.t.Errorf("behind a crash the byte %d of %d is %x", at, id, b)
			return
		}
	}
}

// near is some slot, or block, or none.
func (m *machine) near() int {
	if m.r.below(10) == 0 {
		return far[m.r.below(len(far))]
	}
	return m.r.below(m.d.Len())
}

// carries moves some block that is owned.
func (m *machine) carries() {
	m.t.Helper()
	was := tells(m.t, m.x)
	some := m.v.Blocks(m.r.below(volume(m.x).Geo().Groups))
	if len(some) == 0 {
		return
	}
	b, near := some[m.r.below(len(some))], m.near()
	to, e := m.v.Block(b, near)
	m.calls[fmt.Sprint("Block ", e)]++
	m.log = append(m.log, fmt.Sprint("Block ", b, near, ": ", to, e))
	if now := tells(m.t, m.x); now != was {
		m.t.Errorf("Block(%d, %d) changed what is told:\n%s\nnot\n%s", b, near, now, was)
	}
}

// refuses is why a slot's thing can not be moved.
func (m *machine) refuses(slot int) api.Errno {
	i, e := files(m.x).Get(slot)
	_, free := m.s.Fs().Free()
	switch {
	case slot == vol.Root:
		return api.ErrArg
	case e != api.OK:
		return e
	case i.Kind == api.Free:
		return api.ErrNone
	case free == 0:
		return api.ErrSpace
	}
	return api.OK
}

// some is some slot, mostly one with a thing.
func (m *machine) some() int {
	things := m.v.Things()
	if m.r.below(8) == 0 {
		return m.near()
	}
	return things[m.r.below(len(things))]
}

// moves moves some thing: that changes no answer, but Free.
func (m *machine) moves() {
	m.t.Helper()
	slot, near := m.some(), m.near()
	was, want := tells(m.t, m.x), m.refuses(slot)
	i, _ := files(m.x).Get(slot)
	open, waits, disk := store(m.x).Open(), volume(m.x).Work().Len(), m.d.Bytes()
	named, opens := m.x.Names(slot), nodes(m.x).Opens(slot)
	to, e := m.x.Move(slot, near)
	m.calls[fmt.Sprint("Move ", e, " ", i.Kind)]++
	m.log = append(m.log, fmt.Sprint("Move ", slot, near, ": ", to, e))
	switch {
	case e != want:
		m.t.Errorf("Move(%d, %d): %d, %d, not %d", slot, near, to, e, want)
	case e != api.OK && (to != 0 || store(m.x).Open() != open || volume(m.x).Work().Len() != waits || !bytes.Equal(m.d.Bytes(), disk)):
		m.t.Errorf("Move(%d, %d) is refused, and changes something", slot, near)
	case e == api.OK:
		m.stands(slot, to, i)
		if n := m.x.Names(to); !slices.Equal(n, named) || nodes(m.x).Opens(to) != opens {
			m.t.Errorf("Names(%d): %v, not %v; it is open %d times, not %d", to, n, named, nodes(m.x).Opens(to), opens)
		}
	}
	if now := tells(m.t, m.x); now != was {
		m.t.Errorf("Move(%d, %d) changed what is told:\n%s\nnot\n%s", slot, near, now, was)
	}
	if e == api.OK && !m.d.Stopped() {
		m.rests(i.Id, named)
	}
}

// stands holds that a thing stands in its new slot, and nothing is left of it in the old one.
func (m *machine) stands(from, to int, i api.Inode) {
	m.t.Helper()
	if now, e := files(m.x).Get(to); now != i || e != api.OK || taken(m.x).Frozen(geo.Of(volume(m.x).Geo(), to)) {
		m.t.Errorf("moved to %d it is %v, %d, not %v", to, now, e, i)
	}
	if left, e := files(m.x).Get(from); left != (api.Inode{}) || e != api.OK {
		m.t.Errorf("in the slot %d there is %v, %d", from, left, e)
	}
	if n := m.x.Names(from); len(n) != 0 || nodes(m.x).Opens(from) != 0 || len(files(m.x).Changes(from)) != 0 {
		m.t.Errorf("the slot %d has the names %v, and %v", from, n, files(m.x).Changes(from))
	}
}

// rests is what a move makes safe: the thing, and the directories that name it.
func (m *machine) rests(id int64, named []imove.Name) {
	ids := []int64{id}
	for _, n := range named {
		i, _ := files(m.x).Get(n.Dir)
		ids = append(ids, i.Id)
	}
	for _, id := range ids {
		s := m.now[id]
		m.once[id] = &once{kind: s.kind}
		m.once[id].add(s.said(), s.bytes)
	}
}

// freezes lets some group be frozen, or not.
func (m *machine) freezes() {
	k, on := m.r.below(volume(m.x).Geo().Groups), m.r.below(2) == 0
	taken(m.x).Freeze(k, on)
	m.log = append(m.log, fmt.Sprint("Freeze ", k, on))
}

// step makes some call.
func (m *machine) step() {
	m.t.Helper()
	switch k := m.r.below(100); {
	case k < 45:
		m.call()
	case k < 70:
		m.makes()
	case k < 78:
		m.carries()
	case k < 98:
		m.moves()
	default:
		m.freezes()
	}
}

// whole holds that just what is owned is taken, with all safe, and nothing open that has no name.
func (m *machine) whole() {
	m.t.Helper()
	for fd := range api.MaxOpen {
		m.s.Fs().Close(fd)
	}
	if n, e := m.s.Sync(); e != api.OK || !m.s.Quiet() {
		m.t.Errorf("Sync: %d, %d", n, e)
	}
	for k := range volume(m.x).Geo().Groups {
		own, slots := m.v.Blocks(k), m.v.Slots(k)
		if b, s, e := taken(m.x).Used(k); b != len(own) || s != len(slots) || e != api.OK || m.v.Waits(k) != 0 {
			m.t.Errorf("in the group %d %d blocks and %d slots are taken, %d and %d are things'", k, b, s, len(own), len(slots))
		}
		if slices.ContainsFunc(own, func(b int) bool { return !taken(m.x).Taken(b) }) {
			m.t.Errorf("in the group %d a block is owned, and not taken", k)
		}
	}
	m.now = m.look()
	m.safe()
	m.crash()
}

// P22.3, P22.4 (P1, P2): any calls, with things and blocks moved between, and the power gone behind each.
func TestAnyCalls(t *testing.T) {
	r := dice(2463534242)
	calls := map[string]int{}
	for run := range 40 {
		m := newMachine(t, &r, api.Geo{Group: 24 + r.below(60), Inodes: []int{8, 12, 16, 24}[r.below(4)], Groups: 1 + r.below(3)})
		for step := range 300 {
			m.step()
			m.crash()
			m.crash()
			if t.Failed() {
				t.Fatalf("run %d, step %d:\n%s", run, step, strings.Join(m.log, "\n"))
			}
		}
		m.whole()
		for what, n := range m.calls {
			calls[what] += n
		}
	}
	for _, what := range []string{"create 0", "mkdir 0", "symlink 0", "link 0", "unlink 0", "rmdir 0", "rename 0", "write 0", "truncate 0", "Write 0", "Flush 0", "Fsync 0", "Sync 0", "Block 0", "Move 0 1", "Move 0 2", "Move 0 3", "Move 1 2", "Move 3 0", "Move 20 0", "Move 26 1"} {
		if calls[what] < 10 {
			t.Errorf("%s: %d times", what, calls[what])
		}
	}
}

// P22.3 (P2): any calls behind a Sync, and the disk stopped at each of its writes and flushes, most of them within a move.
func TestEachStop(t *testing.T) {
	for seed := range 8 {
		for stop := 0; ; stop++ {
			r := dice(31337 + 17*seed)
			m := newMachine(t, &r, api.Geo{Group: 60, Inodes: 16, Groups: 1 + seed%2})
			for range 40 {
				m.step()
			}
			m.s.Sync()
			m.safe()
			m.d.Stop(stop)
			for k := 0; k < 40 && !m.d.Stopped(); k++ {
				m.step()
			}
			ended := !m.d.Stopped()
			for range 3 {
				m.crash()
			}
			if t.Failed() {
				t.Fatalf("seed %d, stopped at %d:\n%s", seed, stop, strings.Join(m.log, "\n"))
			}
			if ended {
				break
			}
		}
	}
}
