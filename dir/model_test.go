package dir_test

import (
	"fmt"
	"slices"
	"strings"
	"testing"

	"levee/alloc"
	"levee/api"
	"levee/dir"
	"levee/dirent"
	"levee/disk"
	"levee/file"
	"levee/geo"
	"levee/ptr"
	"levee/push"
	"levee/vol"
)

// dice gives the same numbers below n in every run.
type dice uint32

func (d *dice) below(n int) int {
	*d ^= *d << 13
	*d ^= *d >> 17
	*d ^= *d << 5
	return int(uint32(*d) % uint32(n))
}

// scrawl is what stands at a place that dirent refuses.
const scrawl = "scrawl/"

// model is a directory by the chapter's words: its blocks with their places, nil of a hole, and all lists of entries that it ever had.
type model struct {
	slot   int
	blocks []*[api.PerDir]api.Entry
	had    []string
}

// entries lists all entries, with their places.
func (m *model) entries() ([]api.Entry, []int) {
	var all []api.Entry
	var places []int
	for n, block := range m.blocks {
		if block == nil {
			continue
		}
		for k, e := range block {
			if e.Slot != 0 && e.Name != scrawl {
				all = append(all, e)
				places = append(places, n*api.PerDir+k)
			}
		}
	}
	return all, places
}

// place is where an entry stands.
func (m *model) place(place int) *api.Entry {
	return &m.blocks[place/api.PerDir][place%api.PerDir]
}

// find is the place of a name; -1 of none.
func (m *model) find(name string) int {
	all, places := m.entries()
	for k, e := range all {
		if e.Name == name {
			return places[k]
		}
	}
	return -1
}

// room is the first empty place; -1 of none.
func (m *model) room() int {
	for n, block := range m.blocks {
		if block == nil {
			continue
		}
		if k := slices.Index(block[:], api.Entry{}); k >= 0 {
			return n*api.PerDir + k
		}
	}
	return -1
}

// need is how many blocks a name more may need.
func (m *model) need() int {
	if m.room() >= 0 {
		return 0
	}
	return ptr.Need(int64(len(m.blocks))*256, 256)
}

// told is a list of entries as a text.
func told(all []api.Entry) string {
	var b strings.Builder
	for _, e := range all {
		fmt.Fprintf(&b, "%q %d %v; ", e.Name, e.Slot, e.Leaving)
	}
	return b.String()
}

// remember keeps what the directory has now.
func (m *model) remember() {
	all, _ := m.entries()
	m.had = append(m.had, told(all))
}

// machine is a volume, and some of its directories by the model.
type machine struct {
	t    *testing.T
	r    *dice
	d    *disk.Disk
	v    *vol.Vol
	f    *file.Files
	dirs *dir.Dirs
	all  []*model
}

func newMachine(t *testing.T, r *dice, g api.Geo) *machine {
	t.Helper()
	d, _ := disk.New(geo.Size(g))
	answers(t, "Format", vol.Format(d, g), api.OK)
	m := &machine{t: t, r: r, d: d}
	m.mount()
	for _, slot := range []int{vol.Root, 2} {
		if slot != vol.Root {
			m.f.Put(slot, api.Inode{Kind: api.Dir, Links: 1, Id: int64(slot)})
		}
		m.all = append(m.all, &model{slot: slot, had: []string{""}})
	}
	m.quiet()
	return m
}

func (m *machine) mount() {
	m.t.Helper()
	v, e := vol.Mount(m.d)
	if e != api.OK {
		m.t.Fatal("Mount", e)
	}
	m.v, m.f = v, file.New(alloc.New(v))
	m.dirs = dir.New(m.f)
}

// quiet makes all safe: nothing that the directories had ahead of it comes again.
func (m *machine) quiet() {
	for range 2 {
		push.All(m.v.Store())
		m.f.Alloc().Settle()
	}
	for _, x := range m.all {
		x.had = x.had[len(x.had)-1:]
	}
}

// name is some name, mostly one that can be.
func (m *machine) name() string {
	if m.r.below(10) == 0 {
		return []string{"", ".", "..", "a/b", "a\x00", strings.Repeat("x", 25), "/", scrawl}[m.r.below(8)]
	}
	return strings.Repeat(string(rune('a'+m.r.below(26))), []int{1, 2, 24}[m.r.below(3)])
}

// after is some changes behind which another one comes, with those that are none; one that can not be, if bad.
func (m *machine) after(bad bool) []int64 {
	var after []int64
	for range m.r.below(3) {
		after = append(after, 0)
		if id, e := m.v.SetInode(3, api.Inode{Kind: api.File, Links: m.r.below(1000), Id: 3}); e == api.OK {
			after = append(after, id)
		}
	}
	if bad {
		after = append(after, []int64{-1, 1 << 40}[m.r.below(2)])
	}
	return after
}

// changed holds what a call answered against what it must, and tells whether it made a change: one behind all changes of the directory, and behind after.
func (m *machine) changed(x *model, what string, id int64, e, want api.Errno, ahead, after []int64) bool {
	m.t.Helper()
	if e != want || (id == 0) != (want != api.OK) {
		m.t.Errorf("%s: %d, %d, not %d", what, id, e, want)
	}
	if e != api.OK {
		return false
	}
	waits := m.v.Store().Waits(id)
	for _, before := range append(ahead, after...) {
		if before != 0 && !m.v.Store().Safe(before) && !slices.Contains(waits, before) {
			m.t.Errorf("%s: the change %d does not wait for %d", what, id, before)
		}
	}
	changes := m.f.Changes(x.slot)
	if len(changes) == 0 || changes[len(changes)-1] != id {
		m.t.Errorf("%s: the change %d is not the last of %v", what, id, changes)
	}
	return true
}

func (m *machine) add(x *model) {
	name, slot, bad := m.name(), m.r.below(1026)-1, m.r.below(12) == 0
	after := m.after(bad)
	room := x.room()
	want := api.OK
	free, _ := m.f.Alloc().Free()
	switch {
	case !dirent.Name(name):
		want = api.ErrName
	case x.find(name) >= 0:
		want = api.ErrThere
	case slot < 1 || slot > 1023:
		want = api.ErrArg
	case room < 0 && len(x.blocks) == api.MaxFile:
		want = api.ErrBig
	case free < x.need():
		want = api.ErrSpace
	case bad:
		want = api.ErrArg
	}
	ahead, open := m.f.Changes(x.slot), m.v.Store().Open()
	id, e := m.dirs.Add(x.slot, name, slot, after...)
	if !m.changed(x, "Add", id, e, want, ahead, after) {
		if m.v.Store().Open() != open {
			m.t.Error("a refused Add made changes")
		}
		return
	}
	if room < 0 {
		room = len(x.blocks) * api.PerDir
		x.blocks = append(x.blocks, new([api.PerDir]api.Entry))
	}
	*x.place(room) = api.Entry{Slot: slot, Name: name}
}

// turn makes one of the calls that change an entry.
func (m *machine) turn(x *model) {
	name, bad := m.name(), m.r.below(12) == 0
	if all, _ := x.entries(); len(all) > 0 && m.r.below(4) > 0 {
		name = all[m.r.below(len(all))].Name
	}
	after, ahead := m.after(bad), m.f.Changes(x.slot)
	slot, on := m.r.below(1026)-1, m.r.below(2) == 0
	at, want := x.find(name), api.OK
	kind := m.r.below(3)
	switch {
	case at < 0:
		want = api.ErrNone
	case kind == 1 && (slot < 1 || slot > 1023), bad:
		want = api.ErrArg
	}
	open := m.v.Store().Open()
	var id int64
	var e api.Errno
	next := api.Entry{}
	switch kind {
	case 0:
		id, e = m.dirs.Remove(x.slot, name, after...)
	case 1:
		id, e = m.dirs.Turn(x.slot, name, slot, after...)
		next = api.Entry{Slot: slot, Name: name}
	case 2:
		id, e = m.dirs.Mark(x.slot, name, on, after...)
		if at >= 0 {
			next = *x.place(at)
			next.Leaving = on
		}
	}
	if m.changed(x, "an entry", id, e, want, ahead, after) {
		*x.place(at) = next
	} else if m.v.Store().Open() != open {
		m.t.Error("a refused call made changes")
	}
}

// other does what is done beside the package: holes, scrawls, blocks that move.
func (m *machine) other(x *model) {
	switch m.r.below(4) {
	case 0:
		if len(x.blocks) < 90 {
			m.f.Resize(x.slot, int64(len(x.blocks)+1)*256)
			x.blocks = append(x.blocks, nil)
		}
	case 1:
		if n := m.r.below(len(x.blocks) + 1); n < len(x.blocks) && x.blocks[n] != nil {
			k := m.r.below(api.PerDir)
			if x.blocks[n][k] == (api.Entry{}) {
				m.f.Patch(x.slot, n, k*api.EntrySize+5, []byte("scrawl"), m.f.Changes(x.slot)...)
				x.blocks[n][k] = api.Entry{Slot: 1, Name: scrawl}
			}
		}
	default:
		if owned, _ := m.f.Owned(x.slot); len(owned) > 0 {
			m.f.Carry(x.slot, owned[m.r.below(len(owned))], m.r.below(m.d.Len()))
		}
	}
}

func (m *machine) call() {
	x := m.all[m.r.below(len(m.all))]
	switch k := m.r.below(60); {
	case k < 22:
		m.add(x)
	case k < 36:
		m.turn(x)
	case k < 40:
		m.other(x)
	case k < 52:
		push.Step(m.v.Store(), m.r.below(20))
	case k < 57:
		m.v.Store().Flush()
		m.f.Alloc().Settle()
	case k < 59:
		if all := m.f.Changes(x.slot); len(all) > 0 {
			push.One(m.v.Store(), all[m.r.below(len(all))])
			m.f.Alloc().Settle()
		}
	default:
		m.quiet()
		m.mount()
	}
	x.remember()
}

// holds asks for all that can be asked of a directory.
func (m *machine) holds(x *model) {
	m.t.Helper()
	all, places := x.entries()
	list, e := m.dirs.List(x.slot)
	if e != api.OK || !slices.Equal(list, all) {
		m.t.Errorf("List: %v, %d, not %v", list, e, all)
	}
	if n, e := m.dirs.Need(x.slot); n != x.need() || e != api.OK {
		m.t.Errorf("Need: %d, %d, not %d", n, e, x.need())
	}
	for k, entry := range all {
		slot, at, e := m.dirs.Find(x.slot, entry.Name)
		if slot != entry.Slot || at != places[k] || e != api.OK {
			m.t.Errorf("Find(%q): %d, %d, %d, not %v at %d", entry.Name, slot, at, e, entry, places[k])
		}
	}
	name := m.name()
	if slot, at, e := m.dirs.Find(x.slot, name); x.find(name) < 0 && (slot != 0 || at != 0 || e != api.ErrNone) {
		m.t.Errorf("Find(%q): %d, %d, %d", name, slot, at, e)
	}
}

// crash lets the power of a copy of the disk go: each directory must have a list that it had.
func (m *machine) crash() {
	m.t.Helper()
	c := m.d.Copy()
	picks := make([]int, len(c.Open()))
	for i := range picks {
		picks[i] = m.r.below(4)
	}
	c.Crash(picks)
	m.once(c)
}

// once holds the directories on a disk against those of all times since the last quiet.
func (m *machine) once(c *disk.Disk) {
	m.t.Helper()
	v, e := vol.Mount(c)
	if e != api.OK {
		m.t.Fatal("Mount", e)
	}
	dirs := dir.New(file.New(alloc.New(v)))
	for _, x := range m.all {
		list, e := dirs.List(x.slot)
		if e != api.OK || !slices.Contains(x.had, told(list)) {
			m.t.Errorf("behind a crash the directory %d has %s, %d: of %d lists", x.slot, told(list), e, len(x.had))
		}
	}
}

// P16.1 to P16.5: any calls, one behind the other, with blocks written, flushed and moved between, and the power gone behind each.
func TestAnyCalls(t *testing.T) {
	r := dice(2463534242)
	for run := range 60 {
		m := newMachine(t, &r, api.Geo{Group: 20 + r.below(30), Inodes: 8, Groups: 1 + r.below(3)})
		for range 200 {
			m.call()
			m.crash()
			for _, x := range m.all {
				m.holds(x)
			}
			if t.Failed() {
				t.Fatalf("run %d", run)
			}
		}
	}
}
