package dir_test

import (
	"bytes"
	"math"
	"slices"
	"strings"
	"testing"

	"levee/alloc"
	"levee/api"
	"levee/dir"
	"levee/disk"
	"levee/file"
	"levee/geo"
	"levee/push"
	"levee/vol"
)

// shape is that of most volumes here.
var shape = api.Geo{Group: 24, Inodes: 8, Groups: 2}

// far are numbers that no slot has.
var far = []int{math.MinInt, math.MinInt + 1, -4096, -2, -1, 16, 1024, 65536, math.MaxInt - 1, math.MaxInt}

// noNames are texts that name nothing.
var noNames = []string{"", ".", "..", "/", "a/", "/a", "a\x00", "\x00", strings.Repeat("x", 25), strings.Repeat("x", 1000)}

func answers(t *testing.T, what string, got, want api.Errno) {
	t.Helper()
	if got != want {
		t.Errorf("%s: %d, not %d", what, got, want)
	}
}

// fresh is the directories of a new volume whose data blocks were written over.
func fresh(t *testing.T, g api.Geo) (*dir.Dirs, *vol.Vol) {
	t.Helper()
	d, _ := disk.Load(bytes.Repeat([]byte{0xee}, geo.Size(g)*api.Block))
	answers(t, "Format", vol.Format(d, g), api.OK)
	v, e := vol.Mount(d)
	if e != api.OK {
		t.Fatal("Mount", e)
	}
	f := file.New(alloc.New(v))
	dirs := dir.New(f)
	if dirs == nil || dirs.Files() != f {
		t.Fatal("New", dirs)
	}
	return dirs, v
}

// add adds an entry to the root, and must be let.
func add(t *testing.T, d *dir.Dirs, name string, slot int, after ...int64) int64 {
	t.Helper()
	id, e := d.Add(vol.Root, name, slot, after...)
	if id < 1 || e != api.OK {
		t.Errorf("Add(%q): %d, %d", name, id, e)
	}
	return id
}

// listed holds the root's entries against texts.
func listed(t *testing.T, d *dir.Dirs, want ...api.Entry) {
	t.Helper()
	if l, e := d.List(vol.Root); e != api.OK || !slices.Equal(l, want) {
		t.Errorf("List: %v, %d, not %v", l, e, want)
	}
}

// found holds a name of the root against what it must name, and where.
func found(t *testing.T, d *dir.Dirs, name string, slot, place int) {
	t.Helper()
	if s, at, e := d.Find(vol.Root, name); s != slot || at != place || e != api.OK {
		t.Errorf("Find(%q): %d, %d, %d, not %d, %d", name, s, at, e, slot, place)
	}
}

func need(t *testing.T, d *dir.Dirs, want int) {
	t.Helper()
	if n, e := d.Need(vol.Root); n != want || e != api.OK {
		t.Errorf("Need: %d, %d, not %d", n, e, want)
	}
}

// same tells whether nothing has changed since a call of it.
func same(d *dir.Dirs, v *vol.Vol) func() bool {
	open := v.Store().Open()
	blocks, _ := d.Files().Alloc().Free()
	root, _ := v.Inode(vol.Root)
	return func() bool {
		b, _ := d.Files().Alloc().Free()
		now, _ := v.Inode(vol.Root)
		return open == v.Store().Open() && b == blocks && now == root
	}
}

// each makes every call on a slot, with arguments that can be and with such that can not; each must answer an errno, and nothing beside it.
func each(t *testing.T, d *dir.Dirs, slot int, want api.Errno) {
	t.Helper()
	if l, e := d.List(slot); len(l) != 0 || e != want {
		t.Errorf("List(%d): %v, %d, not %d", slot, l, e, want)
	}
	if n, e := d.Need(slot); n != 0 || e != want {
		t.Errorf("Need(%d): %d, %d, not %d", slot, n, e, want)
	}
	for _, name := range append([]string{"a", "zz"}, noNames...) {
		if s, at, e := d.Find(slot, name); s != 0 || at != 0 || e != want {
			t.Errorf("Find(%d, %q): %d, %d, %d, not %d", slot, name, s, at, e, want)
		}
		for _, other := range append([]int{0, 1, 5}, far...) {
			add, e := d.Add(slot, name, other, int64(other))
			turn, e2 := d.Turn(slot, name, other, int64(other))
			gone, e3 := d.Remove(slot, name, int64(other))
			mark, e4 := d.Mark(slot, name, other > 0, int64(other))
			if add != 0 || turn != 0 || gone != 0 || mark != 0 || e != want || e2 != want || e3 != want || e4 != want {
				t.Errorf("slot %d, %q: %d, %d, %d, %d, not %d", slot, name, e, e2, e3, e4, want)
			}
		}
	}
}

// Of nil, and of things of no volume.
func TestNil(t *testing.T) {
	if dir.New(nil) != nil || (*dir.Dirs)(nil).Files() != nil || new(dir.Dirs).Files() != nil {
		t.Error("New of nil")
	}
	empty := new(file.Files)
	for _, d := range []*dir.Dirs{nil, dir.New(nil), new(dir.Dirs), dir.New(empty)} {
		for _, slot := range append([]int{0, 1, 2}, far...) {
			each(t, d, slot, api.ErrNil)
		}
	}
}

// Slots that are none, without a thing, with an inode that can not be, with a file or a link: ahead of all else.
func TestNoDirectory(t *testing.T) {
	d, v := fresh(t, shape)
	add(t, d, "a", 3)
	d.Files().Put(2, api.Inode{Kind: api.File, Id: 7})
	d.Files().Put(3, api.Inode{Kind: api.Link, Size: 1, Id: 8})
	b, place, _ := geo.Place(shape, 5)
	v.Store().Patch(b, place*api.InodeSize, []byte{9})
	unchanged := same(d, v)
	for _, slot := range far {
		each(t, d, slot, api.ErrRange)
	}
	for _, slot := range []int{0, 4, 15} {
		each(t, d, slot, api.ErrNone)
	}
	each(t, d, 2, api.ErrNotDir)
	each(t, d, 3, api.ErrNotDir)
	each(t, d, 5, api.ErrForm)
	if !unchanged() {
		t.Error("what was refused changed something")
	}
}

// The chapter's example.
func TestExample(t *testing.T) {
	d, _ := fresh(t, shape)
	add(t, d, "a", 5)
	add(t, d, "b", 6)
	if id, e := d.Remove(vol.Root, "a"); id < 1 || e != api.OK {
		t.Error("Remove", id, e)
	}
	add(t, d, "c", 7)
	listed(t, d, api.Entry{Slot: 7, Name: "c"}, api.Entry{Slot: 6, Name: "b"})
}

// P16.1: an empty directory, one that is full, one with holes.
func TestNeed(t *testing.T) {
	d, _ := fresh(t, shape)
	need(t, d, 4)
	listed(t, d)
	for k := range 8 {
		add(t, d, string(rune('a'+k)), 2+k)
		need(t, d, []int{0, 4}[k/7])
	}
	d.Remove(vol.Root, "c")
	need(t, d, 0)
	add(t, d, "c", 4)
	need(t, d, 4)
	d.Files().Resize(vol.Root, 3*256) // two holes: no room in them
	need(t, d, 4)
	add(t, d, "behind", 9)
	found(t, d, "behind", 9, 3*8)
	need(t, d, 0)
	d.Files().Resize(vol.Root, 69*256)
	d.Files().Resize(vol.Root, 256)
	need(t, d, 4)
	// of the last block that can be
	d.Files().Resize(vol.Root, 4165*256)
	need(t, d, 4)
	d.Files().Resize(vol.Root, 4166*256)
	need(t, d, 0)
}

// P16.1: the first entry of a name is found, also one that is Leaving; what dirent refuses is none, and no room.
func TestFind(t *testing.T) {
	d, v := fresh(t, shape)
	for k := range 9 {
		add(t, d, string(rune('a'+k)), 20+k)
	}
	b, _ := d.Files().Where(vol.Root, 0)
	v.SetData(b, 0, []byte{0, 0, 0, 1, 'a'})      // an entry of no slot
	v.SetData(b, 32, []byte{21, 0, 2})            // neither Leaving nor not
	v.SetData(b, 64, []byte{5, 0, 1, 1, 'i'})     // the name of the ninth
	v.SetData(b, 96, []byte{255, 255, 0, 1, 'd'}) // a slot that is none
	found(t, d, "i", 5, 2)
	for _, name := range []string{"a", "b", "c", "d", "z", ""} {
		if s, at, e := d.Find(vol.Root, name); s != 0 || at != 0 || e != api.ErrNone {
			t.Errorf("Find(%q): %d, %d, %d", name, s, at, e)
		}
	}
	listed(t, d, api.Entry{Slot: 5, Leaving: true, Name: "i"}, api.Entry{Slot: 24, Name: "e"}, api.Entry{Slot: 25, Name: "f"}, api.Entry{Slot: 26, Name: "g"}, api.Entry{Slot: 27, Name: "h"}, api.Entry{Slot: 28, Name: "i"})
	add(t, d, "a", 3)
	found(t, d, "a", 3, 9)
	d.Remove(vol.Root, "i")
	found(t, d, "i", 28, 8)
}

// P16.2: Add's errors in their order, also where there is no room, and what is refused changes nothing.
func TestAddRefused(t *testing.T) {
	d, v := fresh(t, api.Geo{Group: 16, Inodes: 8, Groups: 1})
	refused := func(name string, slot int, want api.Errno, after ...int64) {
		t.Helper()
		unchanged := same(d, v)
		if id, e := d.Add(vol.Root, name, slot, after...); id != 0 || e != want || !unchanged() {
			t.Errorf("Add(%.30q, %d): %d, %d, not %d", name, slot, id, e, want)
		}
	}
	all := func(full api.Errno) {
		t.Helper()
		for _, name := range noNames {
			refused(name, -1, api.ErrName, -1)
		}
		for _, slot := range append([]int{0, 1, 5, 1023}, far...) {
			refused("there", slot, api.ErrThere, -1)
		}
		for _, slot := range []int{0, -1, 1024, math.MinInt, math.MaxInt} {
			refused("b", slot, api.ErrArg, -1)
		}
		for _, after := range []int64{-1, math.MinInt64, 1 << 40, math.MaxInt64} {
			refused("b", 5, full, 0, after)
		}
	}
	add(t, d, "there", 5)
	all(api.ErrArg)
	for k := range 7 {
		add(t, d, strings.Repeat("x", 1+k), 5)
	}
	all(api.ErrArg)
	for range 10 {
		d.Files().Alloc().Block(0) // of the twelve that are free two are left
	}
	all(api.ErrSpace)
	refused("b", 5, api.ErrSpace)
	d.Files().Resize(vol.Root, api.MaxFile*256)
	all(api.ErrBig)
	refused("b", 5, api.ErrBig)
	d.Remove(vol.Root, "x")
	add(t, d, "b", 5)
}

// P16.2: the edges of names and slots that can be.
func TestAddEdges(t *testing.T) {
	d, _ := fresh(t, shape)
	var want []api.Entry
	for k, e := range []api.Entry{{Slot: 1, Name: "x"}, {Slot: 1023, Name: strings.Repeat("y", 24)}, {Slot: 2, Name: "..."}, {Slot: 2, Name: ".a"}, {Slot: 2, Name: " "}, {Slot: 2, Name: "\xff\xfe"}, {Slot: 2, Name: "ä€"}, {Slot: 2, Name: "\x01"}, {Slot: 2, Name: "X"}} {
		add(t, d, e.Name, e.Slot)
		found(t, d, e.Name, e.Slot, k)
		want = append(want, e)
	}
	listed(t, d, want...)
}

// P16.2: the first empty place, of whichever block; a block more, all else of which is 0, and only if there is none.
func TestAddPlaces(t *testing.T) {
	d, v := fresh(t, shape)
	f := d.Files()
	for k := range 17 {
		add(t, d, strings.Repeat("x", 1+k), 2+k)
	}
	if i, _ := f.Get(vol.Root); i.Size != 3*256 {
		t.Error("Size", i.Size)
	}
	block, _ := f.Read(vol.Root, 512, 256)
	if !bytes.Equal(block[32:], make([]byte, 224)) {
		t.Errorf("a block more is %x", block)
	}
	for _, k := range []int{13, 2, 6} {
		d.Remove(vol.Root, strings.Repeat("x", 1+k))
	}
	for k, place := range []int{2, 6, 13, 17} {
		add(t, d, strings.Repeat("y", 1+k), 5)
		found(t, d, strings.Repeat("y", 1+k), 5, place)
	}
	push.All(v.Store())
	if own, _ := f.Owned(vol.Root); len(own) != 3 {
		t.Error("Owned", own)
	}
}

// P16.2: a directory whose blocks are named by blocks of names, up to the last one that can be.
func TestAddFar(t *testing.T) {
	d, _ := fresh(t, shape)
	for _, n := range []int{5, 6, 69, 70, 133, 134, 4165} {
		d.Files().Resize(vol.Root, int64(n)*256)
		for k := range 8 {
			name := strings.Repeat(string(rune('a'+k)), 1+n%20)
			if n == 69 {
				name += "!"
			}
			if n == 133 {
				name += "?"
			}
			if n == 4165 {
				name += "#"
			}
			add(t, d, name, 9)
			found(t, d, name, 9, n*8+k)
		}
	}
	if id, e := d.Add(vol.Root, "more", 9); id != 0 || e != api.ErrBig {
		t.Error("Add", id, e)
	}
	if l, e := d.List(vol.Root); len(l) != 56 || e != api.OK {
		t.Error("List", len(l), e)
	}
}

// P16.2: a volume with just as many free blocks as Need, and with one less; frozen groups have none.
func TestAddSpace(t *testing.T) {
	d, _ := fresh(t, api.Geo{Group: 16, Inodes: 8, Groups: 1})
	a := d.Files().Alloc()
	a.Freeze(0, true)
	if id, e := d.Add(vol.Root, "a", 9); id != 0 || e != api.ErrSpace {
		t.Error("Add", id, e)
	}
	a.Freeze(0, false)
	for range 10 {
		a.Block(0)
	}
	if id, e := d.Add(vol.Root, "a", 9); id != 0 || e != api.ErrSpace {
		t.Error("Add", id, e)
	}
	if e := a.FreeBlock(5, 0); e != api.OK || a.Settle() != 1 {
		t.Error("FreeBlock", e)
	}
	for k := range 8 {
		add(t, d, strings.Repeat("x", 1+k), 9) // with room no more is needed
	}
	if id, e := d.Add(vol.Root, "a", 9); id != 0 || e != api.ErrSpace {
		t.Error("Add", id, e)
	}
}

// P16.3: what Remove, Turn and Mark make of an entry, on its block too.
func TestRemoveTurnMark(t *testing.T) {
	d, _ := fresh(t, shape)
	add(t, d, "a", 5)
	add(t, d, "b", 6)
	add(t, d, "c", 7)
	done := func(id int64, e api.Errno) {
		t.Helper()
		if changes := d.Files().Changes(vol.Root); e != api.OK || len(changes) == 0 || changes[len(changes)-1] != id {
			t.Error("a change", id, e, changes)
		}
	}
	done(d.Mark(vol.Root, "b", true))
	listed(t, d, api.Entry{Slot: 5, Name: "a"}, api.Entry{Slot: 6, Leaving: true, Name: "b"}, api.Entry{Slot: 7, Name: "c"})
	done(d.Mark(vol.Root, "b", true))
	done(d.Turn(vol.Root, "b", 1023))
	done(d.Turn(vol.Root, "c", 1))
	listed(t, d, api.Entry{Slot: 5, Name: "a"}, api.Entry{Slot: 1023, Name: "b"}, api.Entry{Slot: 1, Name: "c"})
	done(d.Mark(vol.Root, "c", true))
	done(d.Mark(vol.Root, "c", false))
	done(d.Mark(vol.Root, "a", false))
	done(d.Mark(vol.Root, "a", true))
	done(d.Remove(vol.Root, "b"))
	listed(t, d, api.Entry{Slot: 5, Leaving: true, Name: "a"}, api.Entry{Slot: 1, Name: "c"})
	block, _ := d.Files().Read(vol.Root, 0, 256)
	if !bytes.Equal(block[32:64], make([]byte, 32)) || block[2] != 1 {
		t.Errorf("the block is %x", block[:96])
	}
	found(t, d, "c", 1, 2)
}

// P16.3: the errors in their order, and nothing changes.
func TestTurnRefused(t *testing.T) {
	d, v := fresh(t, shape)
	add(t, d, "a", 5)
	unchanged := same(d, v)
	refused := func(what string, id int64, e, want api.Errno) {
		t.Helper()
		if id != 0 || e != want {
			t.Errorf("%s: %d, %d, not %d", what, id, e, want)
		}
	}
	for _, name := range append([]string{"b", "A", "aa"}, noNames...) {
		id, e := d.Remove(vol.Root, name, -1)
		refused("Remove", id, e, api.ErrNone)
		id, e = d.Turn(vol.Root, name, 0, -1)
		refused("Turn", id, e, api.ErrNone)
		id, e = d.Mark(vol.Root, name, true, -1)
		refused("Mark", id, e, api.ErrNone)
	}
	for _, slot := range []int{0, -1, 1024, math.MinInt, math.MaxInt} {
		id, e := d.Turn(vol.Root, "a", slot)
		refused("Turn", id, e, api.ErrArg)
	}
	for _, after := range []int64{-1, math.MinInt64, 1 << 40, math.MaxInt64} {
		id, e := d.Remove(vol.Root, "a", 0, after)
		refused("Remove", id, e, api.ErrArg)
		id, e = d.Turn(vol.Root, "a", 6, 0, after)
		refused("Turn", id, e, api.ErrArg)
		id, e = d.Mark(vol.Root, "a", true, 0, after)
		refused("Mark", id, e, api.ErrArg)
	}
	if !unchanged() {
		t.Error("what was refused changed something")
	}
	listed(t, d, api.Entry{Slot: 5, Name: "a"})
}

// P16.2, P16.3: each change waits for all that are not safe of its directory, and for those that it is told, of which 0 is none; not for those of another directory.
func TestWaits(t *testing.T) {
	d, v := fresh(t, shape)
	f := d.Files()
	f.Put(2, api.Inode{Kind: api.Dir, Links: 1, Id: 2})
	push.All(v.Store())
	calls := []func(after ...int64) (int64, api.Errno){
		func(after ...int64) (int64, api.Errno) { return d.Add(vol.Root, "a", 5, after...) },
		func(after ...int64) (int64, api.Errno) { return d.Mark(vol.Root, "a", true, after...) },
		func(after ...int64) (int64, api.Errno) { return d.Turn(vol.Root, "a", 6, after...) },
		func(after ...int64) (int64, api.Errno) { return d.Remove(vol.Root, "a", after...) },
		func(after ...int64) (int64, api.Errno) { return d.Add(vol.Root, "b", 5, after...) },
	}
	var others []int64
	for k, call := range calls {
		other, e := d.Add(2, string(rune('a'+k)), 9)
		answers(t, "Add", e, api.OK)
		after, _ := v.SetData(40, 0, []byte("o"))
		others = append(others, after)
		ahead := f.Changes(vol.Root)
		id, e := call(0, after, 0)
		waits := v.Store().Waits(id)
		for _, before := range slices.Concat(ahead, others) {
			if e != api.OK || !slices.Contains(waits, before) {
				t.Errorf("call %d: %d does not wait for %d: %v", k, id, before, waits)
			}
		}
		if slices.Contains(waits, other) {
			t.Errorf("call %d: %d waits for another directory's %d", k, id, other)
		}
	}
	push.All(v.Store())
	safe := f.Last(vol.Root)
	f.Resize(vol.Root, 0)
	add(t, d, "in a block more", 5, safe, 0)
	push.All(v.Store())
	if id, e := d.Add(vol.Root, "c", 5, safe); e != api.OK || !slices.Equal(v.Store().Waits(id), []int64{id}) {
		t.Error("behind what is safe", id, e)
	}
}

// Rules 4 and 5: lists that are answered are new, those that are handed in stay.
func TestLists(t *testing.T) {
	d, v := fresh(t, shape)
	add(t, d, "a", 5)
	l, _ := d.List(vol.Root)
	l[0].Name = "z"
	_ = append(l[:0], api.Entry{Slot: 9, Name: "q"})
	listed(t, d, api.Entry{Slot: 5, Name: "a"})
	other, _ := v.SetData(40, 0, []byte("o"))
	after := []int64{0, other, 0, other}
	given := slices.Clone(after)
	ids := []int64{add(t, d, "b", 5, after...)}
	for _, call := range []func() (int64, api.Errno){
		func() (int64, api.Errno) { return d.Mark(vol.Root, "a", true, after...) },
		func() (int64, api.Errno) { return d.Turn(vol.Root, "a", 9, after...) },
		func() (int64, api.Errno) { return d.Remove(vol.Root, "a", after...) },
	} {
		id, _ := call()
		ids = append(ids, id)
	}
	if !slices.Equal(after, given) {
		t.Error("a list that was handed in is changed", after)
	}
	clear(after)
	for _, id := range ids {
		if !slices.Contains(v.Store().Waits(id), other) {
			t.Error("a list that was handed in is kept", id)
		}
	}
}

// What is done by calls of the things beside the package is seen.
func TestBeside(t *testing.T) {
	d, _ := fresh(t, shape)
	add(t, d, "a", 5)
	same := dir.New(d.Files())
	if _, e := same.Remove(vol.Root, "a"); e != api.OK {
		t.Error("Remove", e)
	}
	listed(t, d)
	add(t, d, "b", 5)
	d.Files().Resize(vol.Root, 0)
	listed(t, d)
	need(t, d, 4)
}

// P16.5: a power cut behind any number of writes and flushes, and any of what was written there.
func TestPowerCut(t *testing.T) {
	r := dice(1)
	script := func(m *machine) {
		root := m.all[0]
		step := func(id int64, e api.Errno) {
			if id == 0 || e != api.OK {
				t.Fatal("a step", id, e)
			}
			list, _ := m.dirs.List(vol.Root)
			root.had = append(root.had, told(list))
		}
		safe := func() {
			push.All(m.v.Store())
			m.f.Alloc().Settle()
		}
		for k := range 9 {
			step(m.dirs.Add(vol.Root, strings.Repeat("x", 1+k), 2+k))
		}
		safe()
		step(m.dirs.Mark(vol.Root, "x", true))
		step(m.dirs.Add(vol.Root, "new", 2))
		step(m.dirs.Remove(vol.Root, "x"))
		m.f.Move(vol.Root, 0, 40)
		step(m.dirs.Turn(vol.Root, "xx", 77))
		step(m.dirs.Remove(vol.Root, "xxxxxxxxx"))
		safe()
		step(m.dirs.Add(vol.Root, "again", 9))
		m.f.Move(vol.Root, 1, 40)
		step(m.dirs.Remove(vol.Root, "again"))
		safe()
	}
	for stop, stopped := 0, true; stopped; stop++ {
		for pick := range 4 {
			m := newMachine(t, &r, shape)
			m.d.Stop(stop)
			script(m)
			stopped = m.d.Stopped()
			picks := make([]int, 60)
			for i := range picks {
				picks[i] = []int{0, 9, i % 2, 1}[pick]
			}
			m.d.Crash(picks)
			m.once(m.d)
			if t.Failed() {
				t.Fatalf("Stop(%d), pick %d", stop, pick)
			}
		}
	}
}

// P16.5: a name is on the disk only with all that it waits for.
func TestNamedBehind(t *testing.T) {
	for steps := range 12 {
		d, v := fresh(t, shape)
		f := d.Files()
		inode, _ := f.Put(2, api.Inode{Kind: api.File, Links: 1, Id: 9})
		id := add(t, d, "a", 2, inode)
		for k := range steps {
			push.Step(v.Store(), k)
			v.Store().Flush()
		}
		if v.Store().Safe(id) && !v.Store().Safe(inode) {
			t.Error("a name is safe ahead of its thing", steps)
		}
	}
}
