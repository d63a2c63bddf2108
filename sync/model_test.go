package sync_test

import (
	"bytes"
	"fmt"
	"maps"
	"slices"
	"strings"
	"testing"

	"levee/api"
	"levee/disk"
	"levee/geo"
	"levee/sync"
	"levee/vol"
)

// dice gives the same numbers below n in every run.
type dice uint32

func (d *dice) below(n int) int {
	*d ^= *d << 13
	*d ^= *d >> 17
	*d ^= *d << 5
	return int(uint32(*d) % uint32(n))
}

// tells is all that a file system answers, but Free, as a text.
func tells(t *testing.T, s *sync.Sync) string {
	t.Helper()
	var b strings.Builder
	for fd := range api.MaxOpen {
		stat, e := s.Fs().Fstat(fd)
		bytes, _ := s.Fs().Read(fd, 0, api.MaxIO)
		fmt.Fprintf(&b, "%d %v %d %q\n", fd, stat, e, bytes)
	}
	return tree(t, s) + b.String()
}

// tree is all names, and what they name, as a text.
func tree(t *testing.T, s *sync.Sync) string {
	t.Helper()
	var b strings.Builder
	f := s.Fs()
	var below func(path string)
	below = func(path string) {
		items, e := f.Readdir(path + "/")
		if e != api.OK {
			t.Errorf("Readdir(%q): %d", path, e)
		}
		for _, item := range items {
			at := path + "/" + item.Name
			stat, e := f.Stat(at, false)
			link, _ := f.Readlink(at)
			bytes, _ := files(s).Read(slot(t, s, at), 0, api.MaxIO)
			fmt.Fprintf(&b, "%q %v %d %q ", at, stat, e, link)
			switch stat.Kind {
			case api.Dir:
				b.WriteString("\n")
				below(at)
			default:
				fmt.Fprintf(&b, "%q\n", bytes)
			}
		}
	}
	below("")
	return b.String()
}

// once is what a thing was, since it was made safe last.
type once struct {
	kind  int
	had   []string // a directory's names, or sizes
	bytes [][]byte
}

// said is what a thing is, as a text: a directory's names, or a size.
func (s seen) said() string {
	if s.kind != api.Dir {
		return fmt.Sprint(s.size)
	}
	return named(s.names)
}

func named(names map[string]int64) string {
	var b strings.Builder
	for _, name := range slices.Sorted(maps.Keys(names)) {
		fmt.Fprintf(&b, "%s=%d ", name, names[name])
	}
	return b.String()
}

func (o *once) add(said string, bytes []byte) {
	if !slices.Contains(o.had, said) {
		o.had = append(o.had, said)
	}
	if len(o.bytes) == 0 || string(o.bytes[len(o.bytes)-1]) != string(bytes) {
		o.bytes = append(o.bytes, bytes)
	}
}

// machine is a file system, and all that it was since all was safe.
type machine struct {
	t     *testing.T
	r     *dice
	d     *disk.Disk
	s     *sync.Sync
	now   map[int64]seen
	once  map[int64]*once
	keeps map[int64]bool // what had a name when all was safe, and ever since
	calls map[string]int
	log   []string
}

func newMachine(t *testing.T, r *dice, g api.Geo) *machine {
	t.Helper()
	d := formatted(t, g)
	m := &machine{t: t, r: r, d: d, s: mounted(t, d), calls: map[string]int{}}
	m.now = m.look()
	m.safe()
	return m
}

// look tells of all things there are, open ones without a name too.
func (m *machine) look() map[int64]seen {
	all := map[int64]seen{}
	ids := map[int]int64{}
	for slot := 1; slot < geo.Slots(volume(m.s).Geo()); slot++ {
		i, e := files(m.s).Get(slot)
		if e != api.OK || i.Kind == api.Free {
			continue
		}
		ids[slot] = i.Id
		s := seen{kind: i.Kind, size: i.Size, names: map[string]int64{}}
		for off := int64(0); off < i.Size && i.Kind != api.Dir; off += api.MaxIO {
			b, _ := files(m.s).Read(slot, off, api.MaxIO)
			s.bytes = append(s.bytes, b...)
		}
		all[i.Id] = s
	}
	for slot, id := range ids {
		list, _ := m.s.Fs().Nodes().Tree().Dirs().List(slot)
		for _, e := range list {
			all[id].names[e.Name] = ids[e.Slot]
		}
	}
	return all
}

// names are the numbers of all things that have names.
func names(all map[int64]seen) map[int64]bool {
	have := map[int64]bool{vol.Root: true}
	for _, s := range all {
		for _, id := range s.names {
			have[id] = true
		}
	}
	return have
}

// safe is a Sync: what was ahead of it does not come again.
func (m *machine) safe() {
	m.once = map[int64]*once{}
	for id, s := range m.now {
		m.once[id] = &once{kind: s.kind}
		m.once[id].add(s.said(), s.bytes)
	}
	m.keeps = names(m.now)
}

// watch looks at what a call made of all things. Of a rename in one directory the new name, and then the old one no more, are two times.
func (m *machine) watch() {
	was := m.now
	m.now = m.look()
	for id, s := range m.now {
		if m.once[id] == nil {
			m.once[id] = &once{kind: s.kind}
		}
		if s.kind == api.Dir {
			both := maps.Clone(s.names)
			for name, of := range was[id].names {
				if _, there := s.names[name]; !there {
					both[name] = of
				}
			}
			if len(both) > len(s.names) && named(both) != named(was[id].names) {
				m.once[id].add(named(both), nil)
			}
		}
		m.once[id].add(s.said(), s.bytes)
	}
	have := names(m.now)
	maps.DeleteFunc(m.keeps, func(id int64, _ bool) bool { return !have[id] })
}

// path is some path, mostly of what is there.
func (m *machine) path() string {
	at, path := int64(vol.Root), ""
	for range 1 + m.r.below(4) {
		here := m.now[at].names
		if len(here) > 0 && m.r.below(4) > 0 {
			name := slices.Sorted(maps.Keys(here))[m.r.below(len(here))]
			path += "/" + name
			at = here[name]
			if m.now[at].kind != api.Dir || m.r.below(3) == 0 {
				return path
			}
			continue
		}
		return path + "/" + string(rune('a'+m.r.below(10)))
	}
	return path
}

// fresh is some path of which nothing is there, mostly.
func (m *machine) fresh() string {
	path := m.path()
	return path[:strings.LastIndex(path, "/")+1] + string(rune('a'+m.r.below(12)))
}

// call makes some call of the file system.
func (m *machine) call() {
	f, a, b := m.s.Fs(), m.path(), m.fresh()
	fd := m.r.below(4)
	var e api.Errno
	var what string
	switch k := m.r.below(100); {
	case k < 14:
		what, e = "create "+b, f.Create(b)
	case k < 24:
		what, e = "mkdir "+b, f.Mkdir(b)
	case k < 27:
		what, e = "symlink "+a+" "+b, f.Symlink(a, b)
	case k < 33:
		what, e = "link "+a+" "+b, f.Link(a, b)
	case k < 42:
		what, e = "unlink "+a, f.Unlink(a)
	case k < 49:
		what, e = "rmdir "+a, f.Rmdir(a)
	case k < 68:
		if m.r.below(3) == 0 {
			b = m.path()
		}
		what, e = "rename "+a+" "+b, f.Rename(a, b)
	case k < 74:
		what = "open " + a
		_, e = f.Open(a)
	case k < 78:
		what, e = fmt.Sprint("close ", fd), f.Close(fd)
	case k < 93:
		off, n := int64([]int{0, 100, 256, 1400, 1536, 17900}[m.r.below(6)]+m.r.below(20)), 1+m.r.below(500)
		what, e = fmt.Sprint("write ", fd, off, n), f.Write(fd, off, bytes.Repeat([]byte{byte(1 + m.r.below(255))}, n))
	default:
		size := int64([]int{0, 10, 256, 300, 1536, 1700, 17000, 18000}[m.r.below(8)])
		what, e = fmt.Sprint("truncate ", fd, size), f.Truncate(fd, size)
	}
	m.calls[fmt.Sprint(strings.SplitN(what, " ", 2)[0], " ", e)]++
	m.log = append(m.log, fmt.Sprint(what, ": ", e))
	if e == api.OK {
		m.watch()
	}
}

// makes makes some call of Sync: it changes no answer, but Free.
func (m *machine) makes() {
	m.t.Helper()
	was := tells(m.t, m.s)
	what, n, e := "", 0, api.OK
	switch k := m.r.below(100); {
	case k < 60:
		at := m.r.below(90) - 30
		what = fmt.Sprint("Write ", at)
		n, e = m.s.Write(at)
	case k < 75:
		what = "Flush"
		n, e = m.s.Flush()
	case k < 95:
		fd := m.r.below(4)
		what = fmt.Sprint("Fsync ", fd)
		slot, _ := m.s.Fs().Nodes().Slot(fd)
		i, _ := files(m.s).Get(slot)
		if n, e = m.s.Fsync(fd); e == api.OK && !m.d.Stopped() {
			s := m.now[i.Id]
			m.once[i.Id] = &once{kind: s.kind}
			m.once[i.Id].add(s.said(), s.bytes)
		}
	default:
		what = "Sync"
		if n, e = m.s.Sync(); e == api.OK && !m.d.Stopped() {
			m.safe()
		}
		if !m.s.Quiet() || m.s.Dirty() != 0 || e != api.OK {
			m.t.Errorf("Sync: %d, %d", n, e)
		}
	}
	m.calls[fmt.Sprint(strings.SplitN(what, " ", 2)[0], " ", e)]++
	m.log = append(m.log, fmt.Sprint(what, ": ", n, e))
	if e != api.OK && n != 0 {
		m.t.Errorf("%s: %d, %d", what, n, e)
	}
	if now := tells(m.t, m.s); now != was {
		m.t.Errorf("%s changed what is told:\n%s\nnot\n%s", what, now, was)
	}
}

// step makes some call.
func (m *machine) step() {
	m.t.Helper()
	if m.r.below(2) == 0 {
		m.call()
	} else {
		m.makes()
	}
}

// crash lets the power of a copy of the disk go, with some of what was written there.
func (m *machine) crash() {
	m.t.Helper()
	c := m.d.Copy()
	picks := make([]int, len(c.Open()))
	most := []int{1, 2, 4, 100}[m.r.below(4)]
	for i := range picks {
		picks[i] = m.r.below(most)
	}
	c.Crash(picks)
	m.held(c)
}

// held is P2: what is there was so once, and nothing is lost that has had a name all the time.
func (m *machine) held(d *disk.Disk) {
	m.t.Helper()
	all := found(m.t, d)
	for id, s := range all {
		o := m.once[id]
		if o == nil {
			m.t.Errorf("behind a crash there is %d, which was gone when all was safe", id)
			continue
		}
		if s.kind != o.kind || !slices.Contains(o.had, s.said()) {
			m.t.Errorf("behind a crash %d, of the kind %d, has %q: it had %q", id, s.kind, s.said(), o.had)
		}
		m.bytes(id, s, o)
	}
	for id := range m.keeps {
		if _, there := all[id]; !there {
			m.t.Errorf("behind a crash %d is lost", id)
		}
	}
}

// bytes holds each byte of a file or a link: it stood there once, or is 0 where there was none.
func (m *machine) bytes(id int64, s seen, o *once) {
	m.t.Helper()
	for at, b := range s.bytes {
		if !slices.ContainsFunc(o.bytes, func(was []byte) bool { return at < len(was) && was[at] == b || at >= len(was) && b == 0 }) {
			m.t.Errorf("behind a crash the byte %d of %d is %x", at, id, b)
			return
		}
	}
}

// P20.3, P20.4: any calls, one behind the other, and the power gone behind each.
func TestAnyCalls(t *testing.T) {
	r := dice(2463534242)
	calls := map[string]int{}
	for run := range 40 {
		m := newMachine(t, &r, api.Geo{Group: 24 + r.below(60), Inodes: []int{8, 16, 24}[r.below(3)], Groups: 1 + r.below(3)})
		for step := range 300 {
			m.step()
			m.crash()
			m.crash()
			if t.Failed() {
				t.Fatalf("run %d, step %d:\n%s", run, step, strings.Join(m.log, "\n"))
			}
		}
		for what, n := range m.calls {
			calls[what] += n
		}
	}
	for _, what := range []string{"create 0", "mkdir 0", "symlink 0", "link 0", "unlink 0", "rmdir 0", "rename 0", "rename 29", "open 0", "close 0", "write 0", "truncate 0", "Write 0", "Write 20", "Flush 0", "Fsync 0", "Fsync 30", "Sync 0"} {
		if calls[what] < 10 {
			t.Errorf("%s: %d times", what, calls[what])
		}
	}
}

// P20.3: the same with the disk stopped at each of its writes and flushes: within Fsync, and within Sync.
func TestEachStop(t *testing.T) {
	for seed := range 8 {
		for stop := 0; ; stop++ {
			r := dice(31337 + 17*seed)
			m := newMachine(t, &r, api.Geo{Group: 60, Inodes: 16, Groups: 1 + seed%2})
			for range 40 {
				m.step()
			}
			m.s.Sync()
			m.safe()
			m.d.Stop(stop)
			for k := 0; k < 40 && !m.d.Stopped(); k++ {
				m.step()
			}
			ended := !m.d.Stopped()
			for range 3 {
				m.crash()
			}
			if t.Failed() {
				t.Fatalf("seed %d, stopped at %d:\n%s", seed, stop, strings.Join(m.log, "\n"))
			}
			if ended {
				break
			}
		}
	}
}

// busy is a machine with many changes that are open.
func busy(t *testing.T, r *dice) *machine {
	t.Helper()
	m := newMachine(t, r, api.Geo{Group: 40, Inodes: 16, Groups: 1 + r.below(3)})
	for range 60 {
		m.step()
	}
	for range 60 {
		m.call()
	}
	return m
}

// ready are the numbers of the dirty blocks that are Ready, for Write.
func ready(s *sync.Sync) []int {
	var some []int
	for n, b := range store(s).Dirty() {
		if store(s).Ready(b) > 0 {
			some = append(some, n)
		}
	}
	return some
}

// P20.5 (P5): Write of all blocks that are Ready, and Flush, as often as there are open changes and once more.
func TestRounds(t *testing.T) {
	r := dice(4711)
	for run := range 30 {
		m := busy(t, &r)
		was, most := tells(t, m.s), store(m.s).Open()+1
		rounds := 0
		for ; rounds < most && !m.s.Quiet(); rounds++ {
			for _, n := range ready(m.s) {
				if _, e := m.s.Write(n); e != api.OK {
					t.Errorf("Write: %d", e)
				}
			}
			if _, e := m.s.Flush(); e != api.OK {
				t.Errorf("Flush: %d", e)
			}
		}
		if !m.s.Quiet() || m.s.Dirty() != 0 || rounds < 3 {
			t.Errorf("run %d: Quiet %t behind %d rounds, with %d open changes and %d dirty blocks", run, m.s.Quiet(), rounds, store(m.s).Open(), m.s.Dirty())
		}
		if now := tells(t, m.s); now != was {
			t.Errorf("it answers otherwise:\n%s\nnot\n%s", now, was)
		}
		m.now = m.look()
		m.safe()
		m.crash()
		if n, e := m.s.Sync(); n != 0 || e != api.OK {
			t.Errorf("Sync: %d, %d", n, e)
		}
	}
}

// P20.5: each round makes some safe, of whatever one block that is Ready.
func TestRoundsOfOne(t *testing.T) {
	r := dice(1147)
	for run := range 30 {
		m := busy(t, &r)
		left := store(m.s).Open()
		for !m.s.Quiet() {
			some := ready(m.s)
			if len(some) == 0 { // all that may be written is, and not flushed
				some = []int{0}
			}
			if _, e := m.s.Write(some[r.below(len(some))]); e != api.OK {
				t.Errorf("Write: %d", e)
			}
			freed, e := m.s.Flush()
			answers(t, "Flush", e, api.OK)
			left += freed // what is free is so by a change more
			if open := store(m.s).Open(); open >= left {
				t.Fatalf("run %d: no change is safe behind a round: %d are open, not fewer than %d", run, open, left)
			} else {
				left = open
			}
		}
	}
}
