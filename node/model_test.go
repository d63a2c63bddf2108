package node_test

import (
	"fmt"
	"maps"
	"slices"
	"strings"
	"testing"

	"levee/alloc"
	"levee/api"
	"levee/dir"
	"levee/dirent"
	"levee/disk"
	"levee/file"
	"levee/geo"
	"levee/node"
	"levee/ptr"
	"levee/push"
	"levee/tree"
	"levee/vol"
)

// dice gives the same numbers below n in every run.
type dice uint32

func (d *dice) below(n int) int {
	*d ^= *d << 13
	*d ^= *d >> 17
	*d ^= *d << 5
	return int(uint32(*d) % uint32(n))
}

// one is a thing by the model; it has a number for ever, and a slot at a time.
type one struct {
	id    int64
	slot  int
	kind  int
	links int
	size  int64
	path  string           // of a link
	names map[string]int64 // of a directory
	had   []string         // all names, or sizes, since all was safe
}

func newOne(id int64, slot, kind int, path string) *one {
	return &one{id: id, slot: slot, kind: kind, links: 1, size: int64(len(path)), path: path, names: map[string]int64{}}
}

// now is what a thing has, as a text.
func (o *one) now() string {
	if o.kind != api.Dir {
		return fmt.Sprint(o.size)
	}
	return told(o.names)
}

func told(names map[string]int64) string {
	var b strings.Builder
	for _, name := range slices.Sorted(maps.Keys(names)) {
		fmt.Fprintf(&b, "%s=%d ", name, names[name])
	}
	return b.String()
}

func (o *one) remember() {
	if text := o.now(); len(o.had) == 0 || o.had[len(o.had)-1] != text {
		o.had = append(o.had, text)
	}
}

// machine is a volume, and all of its things by the model.
type machine struct {
	t     *testing.T
	r     *dice
	d     *disk.Disk
	v     *vol.Vol
	f     *file.Files
	dirs  *dir.Dirs
	n     *node.Nodes
	next  int64
	all   map[int64]*one
	gone  map[int64]*one // since all was safe
	keeps map[int64]bool // what had a name then, and ever since
	open  [api.MaxOpen]int64
	calls map[string]int // how often which call was let
}

func newMachine(t *testing.T, r *dice, g api.Geo) *machine {
	t.Helper()
	d, _ := disk.New(geo.Size(g))
	answers(t, "Format", vol.Format(d, g), api.OK)
	m := &machine{t: t, r: r, d: d, next: 2, calls: map[string]int{}}
	m.all = map[int64]*one{1: newOne(1, vol.Root, api.Dir, "")}
	m.mount()
	m.safe()
	return m
}

func (m *machine) mount() {
	m.t.Helper()
	v, e := vol.Mount(m.d)
	if e != api.OK {
		m.t.Fatal("Mount", e)
	}
	m.v, m.f = v, file.New(alloc.New(v))
	m.dirs = dir.New(m.f)
	m.n = node.New(tree.New(m.dirs))
}

// safe makes all safe; nothing that was ahead of it comes again.
func (m *machine) safe() {
	for range 3 {
		push.All(m.v.Store())
		m.f.Alloc().Settle()
	}
	if m.d.Stopped() {
		return
	}
	m.gone, m.keeps = map[int64]*one{}, map[int64]bool{}
	for id, o := range m.all {
		o.had = []string{o.now()}
		m.keeps[id] = o.links > 0
	}
}

// pick is some thing of a kind; nil, if there is none.
func (m *machine) pick(kinds ...int) *one {
	var some []*one
	for _, id := range slices.Sorted(maps.Keys(m.all)) {
		if slices.Contains(kinds, m.all[id].kind) {
			some = append(some, m.all[id])
		}
	}
	if len(some) == 0 {
		return nil
	}
	return some[m.r.below(len(some))]
}

// name is some name, mostly one that can be.
func (m *machine) name() string {
	if m.r.below(15) == 0 {
		return []string{"", ".", "..", "a/b", "a\x00", strings.Repeat("x", 25)}[m.r.below(6)]
	}
	return string(rune('a' + m.r.below(12)))
}

// there is some name of a directory, mostly one that names something.
func (m *machine) there(o *one) string {
	if len(o.names) == 0 || m.r.below(6) == 0 {
		return m.name()
	}
	return slices.Sorted(maps.Keys(o.names))[m.r.below(len(o.names))]
}

func (m *machine) opens(id int64) int {
	many := 0
	for _, x := range m.open {
		if x == id {
			many++
		}
	}
	return many
}

// free is how many blocks and slots may be taken.
func (m *machine) free() (int, int) { return m.f.Alloc().Free() }

// held holds an answer against what it must be; it tells whether the call was let. A refused one changes nothing.
func (m *machine) held(what string, e, want api.Errno, open int) bool {
	m.t.Helper()
	if e != want {
		m.t.Errorf("%s: %d, not %d", what, e, want)
	}
	if e != api.OK && m.v.Store().Open() != open {
		m.t.Errorf("%s was refused, and made changes", what)
	}
	m.calls[fmt.Sprint(strings.SplitN(what, "(", 2)[0], " ", e)]++
	return e == api.OK && want == api.OK
}

// more is why a directory has no name more.
func (o *one) more(name string) api.Errno {
	switch {
	case o.kind != api.Dir:
		return api.ErrNotDir
	case !dirent.Name(name):
		return api.ErrName
	case o.names[name] != 0:
		return api.ErrThere
	}
	return api.OK
}

func (m *machine) make() {
	in, name := m.pick(api.Dir, api.Dir, api.File), m.name()
	if m.r.below(4) > 0 {
		in = m.pick(api.Dir)
	}
	kind := []int{0, 1, 1, 1, 1, 1, 1, 2, 2, 2, 2, 2, 3, 3, 3, 4}[m.r.below(16)]
	var b []byte
	if kind == api.Link || m.r.below(20) == 0 {
		b = []byte(strings.Repeat("/a", 200)[:[]int{0, 1, 7, 8, 9, 255, 256}[m.r.below(7)]])
	}
	m.makes(in, name, kind, b)
}

// makes is Make by the model: what it made.
func (m *machine) makes(in *one, name string, kind int, b []byte) *one {
	m.t.Helper()
	want := in.more(name)
	blocks, slots := m.free()
	switch {
	case kind < 1 || kind > 3, kind != api.Link && len(b) > 0, kind == api.Link && (len(b) < 1 || len(b) > 255):
		want = api.ErrArg
	case want != api.OK:
	case slots == 0 || blocks < 4 || kind == api.Link && blocks < 4+ptr.Need(0, len(b)):
		want = api.ErrSpace
	}
	open := m.v.Store().Open()
	slot, e := m.n.Make(in.slot, name, kind, b)
	if (slot == 0) != (e != api.OK) {
		m.t.Errorf("Make: %d, %d", slot, e)
	}
	if !m.held(fmt.Sprintf("Make(%d, %q, %d, %q)", in.slot, name, kind, b), e, want, open) {
		return nil
	}
	o := newOne(m.next, slot, kind, string(b))
	m.next++
	clear(b)
	m.all[o.id] = o
	o.remember()
	in.names[name] = o.id
	in.remember()
	return o
}

func (m *machine) join() {
	in, name, o := m.pick(api.Dir), m.name(), m.pick(api.File, api.Link, api.Dir)
	if m.r.below(10) == 0 {
		in = m.pick(api.Dir, api.File, api.Link)
	}
	m.joins(in, name, o)
}

// joins is Join by the model.
func (m *machine) joins(in *one, name string, o *one) {
	m.t.Helper()
	want := in.more(name)
	blocks, _ := m.free()
	switch {
	case o.kind == api.Dir:
		want = api.ErrIsDir
	case want != api.OK:
	case o.links == api.MaxLinks:
		want = api.ErrLinks
	case blocks < 4:
		want = api.ErrSpace
	}
	open := m.v.Store().Open()
	if m.held(fmt.Sprintf("Join(%d, %q, %d)", in.slot, name, o.slot), m.n.Join(in.slot, name, o.slot), want, open) {
		o.links++
		in.names[name] = o.id
		in.remember()
	}
}

// lose takes a link from a thing.
func (m *machine) lose(o *one) {
	o.links--
	if o.links > 0 {
		return
	}
	delete(m.keeps, o.id)
	if m.opens(o.id) == 0 {
		m.drop(o)
	}
}

func (m *machine) drop(o *one) {
	delete(m.all, o.id)
	m.gone[o.id] = o
}

func (m *machine) cut() {
	in := m.pick(api.Dir)
	if m.r.below(10) == 0 {
		in = m.pick(api.Dir, api.File, api.Link)
	}
	m.cuts(in, m.there(in))
}

// cuts is Cut by the model.
func (m *machine) cuts(in *one, name string) {
	m.t.Helper()
	o := m.all[in.names[name]]
	want := api.OK
	switch {
	case in.kind != api.Dir:
		want = api.ErrNotDir
	case o == nil:
		want = api.ErrNone
	case len(o.names) > 0:
		want = api.ErrFilled
	}
	open := m.v.Store().Open()
	if m.held(fmt.Sprintf("Cut(%d, %q)", in.slot, name), m.n.Cut(in.slot, name), want, open) {
		delete(in.names, name)
		in.remember()
		m.lose(o)
	}
}

// within tells whether a thing is a directory, or stands somewhere below it.
func (m *machine) within(o, in *one) bool {
	if o == in {
		return true
	}
	for _, id := range in.names {
		if m.within(o, m.all[id]) {
			return true
		}
	}
	return false
}

func (m *machine) shift() {
	from, to := m.pick(api.Dir), m.pick(api.Dir)
	if m.r.below(20) == 0 {
		to = m.pick(api.Dir, api.File, api.Link)
	}
	name, other := m.there(from), m.there(to)
	if m.r.below(3) > 0 {
		other = m.name()
	}
	if o := m.all[from.names[name]]; o == nil || !m.within(to, o) { // fs asks for that
		m.shifts(from, name, to, other)
	}
}

// shifts is Shift by the model.
func (m *machine) shifts(from *one, name string, to *one, other string) {
	m.t.Helper()
	o, old := m.all[from.names[name]], m.all[to.names[other]]
	blocks, _ := m.free()
	want := api.OK
	switch {
	case o == nil:
		want = api.ErrNone
	case to.kind != api.Dir:
		want = api.ErrNotDir
	case !dirent.Name(other):
		want = api.ErrName
	case o == old:
	case old != nil && o.kind == api.Dir && old.kind != api.Dir:
		want = api.ErrNotDir
	case old != nil && o.kind != api.Dir && old.kind == api.Dir:
		want = api.ErrIsDir
	case old != nil && len(old.names) > 0:
		want = api.ErrFilled
	case blocks < 4:
		want = api.ErrSpace
	}
	open := m.v.Store().Open()
	e := m.n.Shift(from.slot, name, to.slot, other)
	if !m.held(fmt.Sprintf("Shift(%d, %q, %d, %q)", from.slot, name, to.slot, other), e, want, open) || o == old {
		return
	}
	to.names[other] = o.id
	to.remember()
	delete(from.names, name)
	from.remember()
	if old != nil {
		m.calls["replaced"]++
		m.lose(old)
	}
}

func (m *machine) opening() {
	if fd := m.r.below(12) - 2; m.r.below(2) == 0 {
		var id int64
		if fd >= 0 && fd < api.MaxOpen {
			id = m.open[fd]
		}
		want := api.OK
		if id == 0 {
			want = api.ErrFd
		}
		open := m.v.Store().Open()
		if m.held(fmt.Sprintf("Close(%d)", fd), m.n.Close(fd), want, open) {
			m.open[fd] = 0
			if o := m.all[id]; o.links == 0 && m.opens(id) == 0 {
				m.calls["last Close"]++
				m.drop(o)
			}
		}
		return
	}
	o, least := m.pick(api.File, api.File, api.Link, api.Dir), slices.Index(m.open[:], 0)
	want := []api.Errno{0, api.OK, api.ErrIsDir, api.ErrArg}[o.kind]
	if want == api.OK && least < 0 {
		want = api.ErrFiles
	}
	fd, e := m.n.Open(o.slot)
	if m.held(fmt.Sprintf("Open(%d)", o.slot), e, want, m.v.Store().Open()) {
		m.open[least] = o.id
		if fd != least {
			m.t.Errorf("Open: %d, not %d", fd, least)
		}
	} else if fd != 0 {
		m.t.Errorf("Open: %d, %d", fd, e)
	}
}

// bytes writes into a file, each byte the file's own, or cuts it.
func (m *machine) bytes() {
	o := m.pick(api.File)
	if o == nil {
		return
	}
	if m.r.below(3) == 0 {
		o.size = int64(m.r.below(900))
		m.f.Resize(o.slot, o.size)
	} else {
		off, n := int64(m.r.below(500)), 1+m.r.below(400)
		if m.f.Write(o.slot, off, slices.Repeat([]byte{byte(o.id)}, n)) == api.OK {
			o.size = max(o.size, off+int64(n))
		}
	}
	o.remember()
}

// another lets a thing stand in another slot, as a layer above does it.
func (m *machine) another() {
	o := m.pick(api.File, api.Dir, api.Link)
	slot, taken, e := m.f.Alloc().Slot(m.r.below(40))
	if e != api.OK {
		return
	}
	if o.id == 1 {
		m.f.Alloc().FreeSlot(slot, taken)
		return
	}
	m.calls["another slot"]++
	one := func(id int64, _ api.Errno) { push.One(m.v.Store(), id) }
	for _, id := range m.f.Changes(o.slot) {
		one(id, api.OK)
	}
	i, _ := m.f.Get(o.slot)
	one(m.f.Put(slot, i, taken))
	for _, id := range slices.Sorted(maps.Keys(m.all)) {
		in := m.all[id]
		for _, name := range slices.Sorted(maps.Keys(in.names)) {
			if in.names[name] == o.id {
				one(m.dirs.Turn(in.slot, name, slot))
			}
		}
	}
	if n := m.n.Turn(o.slot, slot); n != m.opens(o.id) {
		m.t.Errorf("Turn: %d, not %d", n, m.opens(o.id))
	}
	last, _ := m.f.Put(o.slot, api.Inode{})
	m.f.Alloc().FreeSlot(o.slot, last)
	one(last, api.OK)
	o.slot = slot
}

// call makes some call.
func (m *machine) call() {
	switch k := m.r.below(100); {
	case k < 22:
		m.make()
	case k < 28:
		m.join()
	case k < 38:
		m.cut()
	case k < 60:
		m.shift()
	case k < 67:
		m.opening()
	case k < 70:
		m.bytes()
	case k < 78:
		push.Step(m.v.Store(), m.r.below(20))
	case k < 82:
		m.v.Store().Flush()
		m.f.Alloc().Settle()
	case k < 83:
		if o := m.pick(api.Dir); m.r.below(2) == 0 {
			if owned, _ := m.f.Owned(o.slot); len(owned) > 0 {
				m.f.Carry(o.slot, owned[m.r.below(len(owned))], m.r.below(m.d.Len()))
			}
		}
	case k < 85:
		m.another()
	case k < 86:
		m.safe()
	default:
		m.one()
	}
}

// one makes some change safe, and no more than it waits for.
func (m *machine) one() {
	changes := m.f.Changes(m.pick(api.File, api.Dir, api.Link).slot)
	if len(changes) > 0 {
		push.One(m.v.Store(), changes[m.r.below(len(changes))])
		m.f.Alloc().Settle()
	}
}

// holds asks for all that can be asked: P18.4 and P18.5.
func (m *machine) holds() {
	m.t.Helper()
	named := map[int64]int{1: 1}
	for _, o := range m.all {
		for _, id := range o.names {
			named[id]++
		}
	}
	for id, o := range m.all {
		want := api.Stat{Id: id, Kind: o.kind, Size: o.size, Links: o.links}
		if s, e := m.n.Stat(o.slot); e != api.OK || o.kind != api.Dir && s != want || s.Id != id || s.Links != o.links || s.Kind != o.kind {
			m.t.Errorf("Stat(%d): %v, %d, not %v", o.slot, s, e, want)
		}
		if o.links != named[id] {
			m.t.Errorf("%d has %d links and %d names", id, o.links, named[id])
		}
		if n := m.n.Opens(o.slot); n != m.opens(id) {
			m.t.Errorf("Opens(%d): %d, not %d", o.slot, n, m.opens(id))
		}
		m.whole(m.n.Tree(), o)
		list, e := m.dirs.List(o.slot)
		if (e == api.OK) != (o.kind == api.Dir) || len(list) != len(o.names) {
			m.t.Errorf("List(%d): %v, %d, not %v", o.slot, list, e, o.names)
		}
		for _, entry := range list {
			if other := m.all[o.names[entry.Name]]; other == nil || other.slot != entry.Slot || entry.Leaving {
				m.t.Errorf("List(%d): %v, not %v", o.slot, entry, other)
			}
		}
	}
	for fd, id := range m.open {
		want, f := 0, api.ErrFd
		if id != 0 {
			want, f = m.all[id].slot, api.OK
		}
		if slot, e := m.n.Slot(fd); slot != want || e != f {
			m.t.Errorf("Slot(%d): %d, %d, not %d, %d", fd, slot, e, want, f)
		}
	}
}

// whole holds the bytes of a file or a link.
func (m *machine) whole(x *tree.Tree, o *one) {
	m.t.Helper()
	if s, e := x.Target(o.slot); o.kind == api.Link && (s != o.path || e != api.OK) {
		m.t.Errorf("the link %d is %q, %d, not %q", o.slot, s, e, o.path)
	}
	b, _ := x.Dirs().Files().Read(o.slot, 0, api.MaxIO)
	if o.kind == api.File && slices.ContainsFunc(b, func(x byte) bool { return x != 0 && x != byte(o.id) }) {
		m.t.Errorf("the file %d has others' bytes: %x", o.id, b)
	}
}

// disked is a volume behind a crash, as one comes through it from the root on.
type disked struct {
	m     *machine
	x     *tree.Tree
	kept  map[int64]int // by number: the slot
	names map[int64]map[string]int64
	left  []int64
}

// enter looks at an entry of a directory that is kept: what it names must be what it named once. It tells whether the entry stays.
func (k *disked) enter(in int64, e api.Entry) {
	m := k.m
	i, errno := k.x.Dirs().Files().Get(e.Slot)
	if errno != api.OK || i.Kind == api.Free {
		m.t.Errorf("behind a crash %q in %d names %d, where there is nothing", e.Name, in, e.Slot)
		return
	}
	slot, met := k.kept[i.Id]
	if met && i.Kind == api.Dir {
		if !e.Leaving {
			m.t.Errorf("behind a crash %q in %d is another name of the directory %d", e.Name, in, i.Id)
		}
		return
	}
	if !met {
		k.kept[i.Id] = e.Slot
		k.left = append(k.left, i.Id)
	} else if slot != e.Slot {
		if twin, _ := k.x.Dirs().Files().Get(slot); twin.Kind != i.Kind {
			m.t.Errorf("behind a crash %d stands in %d and in %d", i.Id, slot, e.Slot)
		}
	}
	k.names[in][e.Name] = i.Id
}

// once holds the things on a disk against those of all times since all was safe.
func (m *machine) once(d *disk.Disk) {
	m.t.Helper()
	v, e := vol.Mount(d)
	if e != api.OK {
		m.t.Fatal("Mount", e)
	}
	k := &disked{m: m, x: tree.New(dir.New(file.New(alloc.New(v)))), kept: map[int64]int{1: 1}, names: map[int64]map[string]int64{}, left: []int64{1}}
	type late struct {
		in int64
		e  api.Entry
	}
	var leaving []late
	for len(k.left) > 0 {
		id := k.left[0]
		k.left = k.left[1:]
		k.names[id] = map[string]int64{}
		list, _ := k.x.Dirs().List(k.kept[id])
		for _, e := range list {
			if e.Leaving {
				leaving = append(leaving, late{id, e})
				continue
			}
			k.enter(id, e)
		}
		for len(k.left) == 0 && len(leaving) > 0 {
			k.enter(leaving[0].in, leaving[0].e)
			leaving = leaving[1:]
		}
	}
	m.had(k)
}

// had is P2: what is kept was so once, and nothing that was safe is lost.
func (m *machine) had(k *disked) {
	m.t.Helper()
	for id, slot := range k.kept {
		o := m.all[id]
		if o == nil {
			o = m.gone[id]
		}
		if o == nil {
			m.t.Errorf("behind a crash there is %d, which was gone when all was safe", id)
			continue
		}
		now := told(k.names[id])
		i, _ := k.x.Dirs().Files().Get(slot)
		if o.kind != api.Dir {
			now = fmt.Sprint(i.Size)
		}
		if i.Kind != o.kind || !slices.Contains(o.had, now) {
			m.t.Errorf("behind a crash %d has %s: it had %q", id, now, o.had)
		}
		m.whole(k.x, &one{id: id, slot: slot, kind: o.kind, path: o.path})
	}
	for id, keeps := range m.keeps {
		if _, kept := k.kept[id]; keeps && !kept {
			m.t.Errorf("behind a crash %d is lost: %v", id, k.names)
		}
	}
}

// crash lets the power of a copy of the disk go.
func (m *machine) crash() {
	m.t.Helper()
	c := m.d.Copy()
	picks := make([]int, len(c.Open()))
	for i := range picks {
		picks[i] = m.r.below(4)
	}
	c.Crash(picks)
	m.once(c)
}

// P18.1 to P18.5: any calls, one behind the other, with blocks written, flushed and moved between, and the power gone behind each.
func TestAnyCalls(t *testing.T) {
	r := dice(2463534242)
	calls := map[string]int{}
	for run := range 25 {
		m := newMachine(t, &r, api.Geo{Group: 20 + r.below(30), Inodes: 8, Groups: 1 + r.below(3)})
		for range 400 {
			m.call()
			m.crash()
			m.crash()
			m.holds()
			if t.Failed() {
				t.Fatalf("run %d", run)
			}
		}
		m.safe()
		m.once(m.d)
		for what, n := range m.calls {
			calls[what] += n
		}
	}
	for _, what := range []string{"Make 0", "Make 1", "Make 21", "Make 23", "Make 25", "Make 26", "Join 0", "Join 21", "Join 22", "Join 23", "Join 25", "Cut 0", "Cut 20", "Cut 23", "Cut 24",
		"Shift 0", "Shift 20", "Shift 22", "Shift 23", "Shift 24", "Shift 25", "replaced", "Open 0", "Open 1", "Open 22", "Close 0", "Close 30", "last Close", "another slot"} {
		if calls[what] < 3 {
			t.Errorf("%s: %d times", what, calls[what])
		}
	}
}

// P2: the same calls with the disk stopped at each of its writes and flushes.
func TestEachStop(t *testing.T) {
	for seed := range 6 {
		for stop := 0; ; stop++ {
			r := dice(77777 + seed)
			m := newMachine(t, &r, api.Geo{Group: 40, Inodes: 16, Groups: 1})
			for range 30 {
				m.call()
			}
			m.safe()
			m.d.Stop(stop)
			for k := 0; k < 60 && !m.d.Stopped(); k++ {
				m.call()
			}
			ended := !m.d.Stopped()
			for range 3 {
				m.crash()
			}
			if t.Failed() {
				t.Fatalf("seed %d, stopped at %d", seed, stop)
			}
			if ended {
				break
			}
		}
	}
}

// alone makes each one and each two changes of some calls safe, with no more than they wait for, and lets the power go.
func alone(t *testing.T, do func(m *machine)) {
	t.Helper()
	done := func() *machine {
		r := dice(1)
		m := newMachine(t, &r, api.Geo{Group: 60, Inodes: 16, Groups: 1})
		do(m)
		return m
	}
	open := changes(done())
	for k, one := range open {
		for _, two := range open[k:] {
			m := done()
			push.One(m.v.Store(), one)
			push.One(m.v.Store(), two)
			m.d.Crash(nil)
			m.once(m.d)
			if t.Failed() {
				t.Fatalf("with the changes %d and %d", one, two)
			}
		}
	}
}

// changes lists all changes that are not safe.
func changes(m *machine) []int64 {
	var open []int64
	store := m.v.Store()
	for id := int64(1); len(open) < store.Open(); id++ {
		if _, e := store.Block(id); e == api.OK {
			open = append(open, id)
		}
	}
	return open
}

// P2: a name that is shifted, and what becomes of the directories in which it stands.
func TestShiftAlone(t *testing.T) {
	for what, do := range map[string]func(m *machine, root, a, b, f *one){
		"into a new directory": func(m *machine, root, a, b, f *one) {
			n := m.makes(b, "n", api.Dir, nil)
			m.shifts(a, "f", n, "g")
		},
		"into a new directory of a new one": func(m *machine, root, a, b, f *one) {
			n := m.makes(m.makes(b, "n", api.Dir, nil), "m", api.Dir, nil)
			m.shifts(a, "f", n, "g")
		},
		"into a new directory that was shifted": func(m *machine, root, a, b, f *one) {
			n := m.makes(root, "n", api.Dir, nil)
			m.shifts(root, "n", b, "n")
			m.shifts(a, "f", n, "g")
			m.shifts(b, "n", root, "m")
		},
		"out of a directory that goes": func(m *machine, root, a, b, f *one) {
			m.shifts(a, "f", b, "g")
			m.cuts(root, "a")
		},
		"out of a directory that another one replaces": func(m *machine, root, a, b, f *one) {
			n := m.makes(b, "n", api.Dir, nil)
			m.shifts(a, "f", n, "g")
			m.shifts(b, "d", root, "a")
		},
		"of a directory, twice": func(m *machine, root, a, b, f *one) {
			m.shifts(b, "d", a, "d")
			m.shifts(a, "d", root, "d")
			m.shifts(root, "d", b, "e")
		},
		"of a directory into one that is shifted": func(m *machine, root, a, b, f *one) {
			d := m.all[b.names["d"]]
			m.shifts(root, "a", d, "a")
			m.shifts(b, "d", root, "e")
		},
		"of a directory, and of what it stood in": func(m *machine, root, a, b, f *one) {
			d := m.all[b.names["d"]]
			m.shifts(b, "d", root, "e")
			m.shifts(root, "b", d, "b")
		},
		"in one directory": func(m *machine, root, a, b, f *one) {
			m.shifts(a, "f", a, "g")
			m.shifts(root, "a", root, "c")
			m.shifts(root, "c", root, "a")
		},
		"over another file": func(m *machine, root, a, b, f *one) {
			m.makes(b, "g", api.File, nil)
			m.shifts(a, "f", b, "g")
			m.shifts(b, "g", root, "g")
		},
		"of a thing that is written": func(m *machine, root, a, b, f *one) {
			m.f.Write(f.slot, 0, slices.Repeat([]byte{byte(f.id)}, 600))
			f.size = 600
			f.remember()
			m.shifts(a, "f", b, "f")
			g := m.makes(b, "g", api.Link, []byte("a path of it"))
			m.shifts(b, "g", a, "g")
			m.joins(root, "l", g)
			m.cuts(a, "g")
		},
	} {
		t.Run(what, func(t *testing.T) {
			alone(t, func(m *machine) {
				m.t = t
				root := m.all[1]
				a, b := m.makes(root, "a", api.Dir, nil), m.makes(root, "b", api.Dir, nil)
				f := m.makes(a, "f", api.File, nil)
				m.makes(b, "d", api.Dir, nil)
				m.safe()
				do(m, root, a, b, f)
			})
		})
	}
}

// P2: a thing with more names keeps one, whichever of them go.
func TestJoinAlone(t *testing.T) {
	for what, do := range map[string]func(m *machine, root, a, b, f *one){
		"and its old name goes": func(m *machine, root, a, b, f *one) {
			m.joins(b, "g", f)
			m.cuts(a, "f")
		},
		"in a new directory": func(m *machine, root, a, b, f *one) {
			n := m.makes(m.makes(root, "n", api.Dir, nil), "m", api.Dir, nil)
			m.joins(n, "g", f)
			m.cuts(a, "f")
			m.cuts(root, "a")
		},
		"and its old name becomes another one's": func(m *machine, root, a, b, f *one) {
			m.joins(b, "g", f)
			m.makes(a, "h", api.File, nil)
			m.shifts(a, "h", a, "f")
		},
		"again and again": func(m *machine, root, a, b, f *one) {
			m.joins(b, "g", f)
			m.joins(root, "h", f)
			m.cuts(a, "f")
			m.cuts(b, "g")
			m.joins(a, "i", f)
			m.cuts(root, "h")
		},
		"and the new one is shifted": func(m *machine, root, a, b, f *one) {
			m.joins(b, "g", f)
			m.shifts(b, "g", root, "g")
			m.cuts(a, "f")
			m.joins(a, "f", f)
			m.shifts(root, "g", b, "g")
			m.cuts(a, "f")
		},
	} {
		t.Run(what, func(t *testing.T) {
			alone(t, func(m *machine) {
				m.t = t
				root := m.all[1]
				a, b := m.makes(root, "a", api.Dir, nil), m.makes(root, "b", api.Dir, nil)
				f := m.makes(a, "f", api.File, nil)
				m.safe()
				do(m, root, a, b, f)
			})
		})
	}
}

// P2: a slot is no other thing's, as long as a name that went may stand on the disk.
func TestSlotAlone(t *testing.T) {
	for _, kind := range []int{api.File, api.Dir} {
		alone(t, func(m *machine) {
			root := m.all[1]
			a, b := m.makes(root, "a", api.Dir, nil), m.makes(root, "b", api.Dir, nil)
			o := m.makes(a, "o", kind, nil)
			m.safe()
			m.shifts(a, "o", b, "o")
			m.cuts(b, "o")
			push.One(m.v.Store(), m.f.Last(o.slot))
			m.f.Alloc().Settle()
			if again := m.makes(b, "n", api.File, nil); again.slot != o.slot {
				t.Error("the slot is not taken anew")
			}
		})
	}
}
