package file_test

import (
	"bytes"
	"math"
	"slices"
	"testing"

	"levee/alloc"
	"levee/api"
	"levee/disk"
	"levee/file"
	"levee/geo"
	"levee/inode"
	"levee/push"
	"levee/vol"
)

// large is a shape with room for blocks of names of all kinds.
var large = api.Geo{Group: 48, Inodes: 8, Groups: 2}

// far are numbers that no slot, no block, and no n-th one has.
var far = []int{math.MinInt, math.MinInt + 1, -4096, -2, -1, 5000, 65536, math.MaxInt - 1, math.MaxInt}

func answers(t *testing.T, what string, got, want api.Errno) {
	t.Helper()
	if got != want {
		t.Errorf("%s: %d, not %d", what, got, want)
	}
}

// fresh is the things of a new volume.
func fresh(t *testing.T, g api.Geo) (*file.Files, *vol.Vol, *disk.Disk) {
	t.Helper()
	d, _ := disk.Load(bytes.Repeat([]byte{never}, geo.Size(g)*api.Block))
	answers(t, "Format", vol.Format(d, g), api.OK)
	f, v := again(t, d)
	return f, v, d
}

// again is the things of the volume on a disk.
func again(t *testing.T, d *disk.Disk) (*file.Files, *vol.Vol) {
	t.Helper()
	v, e := vol.Mount(d)
	if e != api.OK {
		t.Fatal("Mount", e)
	}
	a := alloc.New(v)
	f := file.New(a)
	if f == nil || f.Alloc() != a {
		t.Fatal("New", f)
	}
	return f, v
}

// made puts a thing into a slot.
func made(t *testing.T, f *file.Files, slot, kind int) int64 {
	t.Helper()
	i := api.Inode{Kind: kind, Links: 1, Id: int64(100 + slot)}
	if kind == api.Link {
		i.Size = 1
	}
	id, e := f.Put(slot, i)
	if id < 1 || e != api.OK {
		t.Fatal("Put", id, e)
	}
	return id
}

// one is the things of a new volume with a file in the slot 2.
func one(t *testing.T) (*file.Files, *vol.Vol) {
	t.Helper()
	f, v, _ := fresh(t, large)
	made(t, f, 2, api.File)
	return f, v
}

// wrote writes, and must be let.
func wrote(t *testing.T, f *file.Files, slot int, off int64, b string) {
	t.Helper()
	answers(t, "Write", f.Write(slot, off, []byte(b)), api.OK)
}

// at lets a file have the n-th block of bytes.
func at(t *testing.T, f *file.Files, slot int, ns ...int) {
	t.Helper()
	for _, n := range ns {
		wrote(t, f, slot, int64(n)*256, "x")
	}
}

// read holds bytes against those that are wanted.
func read(t *testing.T, f *file.Files, slot int, off int64, n int, want string) {
	t.Helper()
	if b, e := f.Read(slot, off, n); string(b) != want || e != api.OK {
		t.Errorf("Read(%d, %d, %d): %q, %d, not %q", slot, off, n, b, e, want)
	}
}

// where answers the n-th block, that must be there or not.
func where(t *testing.T, f *file.Files, slot, n int, there bool) int {
	t.Helper()
	b, e := f.Where(slot, n)
	if e != api.OK || (b != 0) != there {
		t.Errorf("Where(%d, %d): %d, %d", slot, n, b, e)
	}
	return b
}

func owned(t *testing.T, f *file.Files, slot int) []int {
	t.Helper()
	all, e := f.Owned(slot)
	answers(t, "Owned", e, api.OK)
	return all
}

func thingOf(t *testing.T, f *file.Files, slot int) api.Inode {
	t.Helper()
	i, e := f.Get(slot)
	answers(t, "Get", e, api.OK)
	return i
}

// settled makes all safe, and frees what waits.
func settled(f *file.Files, v *vol.Vol) {
	for range 2 {
		push.All(v.Store())
		f.Alloc().Settle()
	}
}

// same tells whether nothing has changed since a call of it.
func same(f *file.Files, v *vol.Vol) func() bool {
	open, acts := v.Store().Open(), v.Work().Len()
	blocks, slots := f.Alloc().Free()
	return func() bool {
		b, s := f.Alloc().Free()
		return open == v.Store().Open() && acts == v.Work().Len() && b == blocks && s == slots
	}
}

// each makes every call that asks for a thing, with arguments that can be and with such that can not, and tells what each answers; all other results must be none.
func each(t *testing.T, f *file.Files, slot int, tell func(string, api.Errno)) {
	t.Helper()
	for _, n := range append([]int{0, 1, 6, 70, 4165, 4166}, far...) {
		b, e := f.Where(slot, n)
		tell("Where", e)
		id, e := f.Patch(slot, n, n, []byte("x"), int64(n), math.MaxInt64)
		tell("Patch", e)
		moved, e := f.Move(slot, n, n)
		tell("Move", e)
		carried, e := f.Carry(slot, n, n)
		tell("Carry", e)
		bytes, e := f.Read(slot, int64(n), n)
		tell("Read", e)
		if b != 0 || id != 0 || moved != 0 || carried != 0 || len(bytes) != 0 {
			t.Error("answers beside an error", b, id, moved, carried, bytes)
		}
		tell("Write", f.Write(slot, int64(n), make([]byte, 5000)))
		tell("Write", f.Write(slot, int64(n), nil))
		tell("Resize", f.Resize(slot, int64(n)))
		tell("Drop", f.Drop(slot, int64(n)))
	}
	data, e := f.Data(slot)
	tell("Data", e)
	all, e := f.Owned(slot)
	tell("Owned", e)
	rows, e := f.Extents(slot)
	tell("Extents", e)
	if len(data) != 0 || len(all) != 0 || rows != 0 {
		t.Error("answers beside an error", data, all, rows)
	}
}

// P15.1 to P15.5: of nil, and of no volume.
func TestNoVolume(t *testing.T) {
	if file.New(nil) != nil || file.New(new(alloc.Alloc)) != nil {
		t.Error("New of no volume")
	}
	for _, f := range []*file.Files{nil, file.New(nil), new(file.Files)} {
		if f.Alloc() != nil {
			t.Error("Alloc of none")
		}
		for _, slot := range append([]int{0, 1, 2}, far...) {
			i, e := f.Get(slot)
			id, e2 := f.Put(slot, api.Inode{Kind: api.File, Id: 1}, 1)
			if i != (api.Inode{}) || e != api.ErrNil || id != 0 || e2 != api.ErrNil || f.Last(slot) != 0 || len(f.Changes(slot)) != 0 {
				t.Error("of none", i, e, id, e2)
			}
			each(t, f, slot, func(what string, e api.Errno) { answers(t, what, e, api.ErrNil) })
		}
	}
}

// P15.1: slots that are none, slots without a thing, and inodes that can not be: ahead of all other errors, and nothing changes.
func TestNoThing(t *testing.T) {
	f, v, d := fresh(t, large)
	b, place, _ := geo.Place(large, 5)
	table, _ := d.Read(b)
	table[place*api.InodeSize] = 9
	d.Write(b, table)
	d.Flush()
	unchanged := same(f, v)
	for _, slot := range append(far, 16) {
		if i, e := f.Get(slot); i != (api.Inode{}) || e != api.ErrRange {
			t.Error("Get", slot, i, e)
		}
		each(t, f, slot, func(what string, e api.Errno) { answers(t, what, e, api.ErrRange) })
	}
	for _, slot := range []int{0, 2, 4, 15} {
		if i, e := f.Get(slot); i != (api.Inode{}) || e != api.OK {
			t.Error("Get", slot, i, e)
		}
		each(t, f, slot, func(what string, e api.Errno) { answers(t, what, e, api.ErrNone) })
	}
	if i, e := f.Get(5); i != (api.Inode{}) || e != api.ErrForm {
		t.Error("Get", i, e)
	}
	each(t, f, 5, func(what string, e api.Errno) { answers(t, what, e, api.ErrForm) })
	if !unchanged() {
		t.Error("what was refused changed something")
	}
}

// P15.1: Get and Put are the volume's.
func TestGetPut(t *testing.T) {
	f, v, _ := fresh(t, large)
	x, _ := v.SetData(6, 0, []byte("x"))
	i := api.Inode{Kind: api.File, Links: 3, Size: 9, Id: 7, P: [api.Direct]int{6}}
	id, e := f.Put(3, i, x, x)
	if now, _ := v.Inode(3); id != x+1 || e != api.OK || now != i || thingOf(t, f, 3) != i {
		t.Error("Put", id, e)
	}
	if waits := v.Store().Waits(id); !slices.Equal(waits, []int64{x, id}) {
		t.Error("Waits", waits)
	}
	beside := i
	beside.Links = 4
	v.SetInode(3, beside)
	if thingOf(t, f, 3) != beside {
		t.Error("what is done beside is not seen")
	}
	if _, e := f.Put(3, api.Inode{}); e != api.OK || thingOf(t, f, 3) != (api.Inode{}) {
		t.Error("Put of none", e)
	}
}

// P15.1: Put's errors are SetInode's, 0 behind which nothing is too, and no change comes of them.
func TestPutRefused(t *testing.T) {
	f, v := one(t)
	unchanged, last := same(f, v), f.Last(2)
	right, wrong := api.Inode{Kind: api.File, Id: 1}, api.Inode{Kind: 4, Id: 1}
	for _, slot := range append(far, 16) {
		id, e := f.Put(slot, wrong, -1)
		if id != 0 || e != api.ErrRange || f.Last(slot) != 0 || f.Changes(slot) != nil {
			t.Error("Put", id, e)
		}
	}
	for _, after := range []int64{0, -1, math.MinInt64, last + 1, math.MaxInt64} {
		if id, e := f.Put(2, right, last, after); id != 0 || e != api.ErrArg {
			t.Error("Put behind", after, id, e)
		}
	}
	if id, e := f.Put(2, wrong); id != 0 || e != api.ErrArg {
		t.Error("Put", id, e)
	}
	if !unchanged() || f.Last(2) != last || !slices.Equal(f.Changes(2), []int64{last}) {
		t.Error("a refused Put changed something", f.Changes(2))
	}
}

// P15.1: the last change of an inode, whatever call made it, safe or not; what is done beside the package is none.
func TestLast(t *testing.T) {
	f, v, _ := fresh(t, large)
	if f.Last(2) != 0 || f.Last(-1) != 0 || f.Last(math.MaxInt) != 0 {
		t.Error("Last of none")
	}
	id := made(t, f, 2, api.File)
	made(t, f, 3, api.File)
	v.SetInode(4, api.Inode{Kind: api.File, Id: 9})
	if f.Last(2) != id || f.Last(3) != id+1 || f.Last(4) != 0 {
		t.Error("Last", f.Last(2), f.Last(3), f.Last(4))
	}
	steps := []func(){
		func() { at(t, f, 2, 0) },
		func() { at(t, f, 2, 6) },
		func() { f.Resize(2, 10) },
		func() { f.Move(2, 0, 0) },
		func() { f.Drop(2, 0) },
	}
	for k, step := range steps {
		before := f.Last(2)
		step()
		last := f.Last(2)
		if b, _ := v.Store().Block(last); last <= before || b != 3 {
			t.Error("Last", k, before, last, b)
		}
		push.All(v.Store())
		if f.Last(2) != last {
			t.Error("Last of what is safe", k)
		}
	}
	before := f.Last(3)
	at(t, f, 3, 0)
	inodes := f.Last(3)
	wrote(t, f, 3, 0, "y")
	f.Patch(3, 0, 9, []byte("z"))
	if inodes == before || f.Last(3) != inodes {
		t.Error("Last of a change of bytes alone")
	}
}

// P15.1: all changes of a slot's things that are not safe, the oldest first: of inodes, bytes and names, not of headers, nor of other slots, nor those beside the package.
func TestChanges(t *testing.T) {
	f, v, _ := fresh(t, large)
	if len(f.Changes(2)) != 0 || len(f.Changes(-1)) != 0 || len(f.Changes(math.MaxInt)) != 0 {
		t.Error("Changes of none")
	}
	first := made(t, f, 2, api.File)
	made(t, f, 3, api.File)
	v.SetInode(4, api.Inode{Kind: api.File, Id: 9})
	at(t, f, 2, 6)
	at(t, f, 3, 0)
	patch, _ := f.Patch(2, 6, 9, []byte("y"))
	beside, _ := v.SetData(where(t, f, 2, 6, true), 20, []byte("z"))
	all := f.Changes(2)
	heads := 0
	for id := range beside + 1 {
		b, _ := v.Store().Block(id)
		kind, _ := geo.Kind(large, b)
		if kind == geo.Header {
			heads++
		}
		if slices.Contains(all, id) && kind == geo.Header {
			t.Error("a header's change is one of the thing's", id)
		}
	}
	// put; the block of bytes, the one of names, the name in it; the inode; the patch
	if len(all) != 6 || all[0] != first || all[5] != patch || all[4] != f.Last(2) || !slices.IsSorted(all) || heads != 3 {
		t.Error("Changes", all, first, patch, heads)
	}
	if other := f.Changes(3); len(other) != 3 || slices.ContainsFunc(other, func(id int64) bool { return slices.Contains(all, id) }) {
		t.Error("Changes of another slot", other)
	}
	push.One(v.Store(), first)
	if now := f.Changes(2); !slices.Equal(now, all[1:]) {
		t.Error("Changes", now)
	}
	push.One(v.Store(), all[5])
	left := slices.DeleteFunc(slices.Clone(all), v.Store().Safe)
	if now := f.Changes(2); !slices.Equal(now, left) {
		t.Error("Changes", now, left)
	}
	push.All(v.Store())
	if now := f.Changes(2); len(now) != 0 {
		t.Error("Changes of what is safe", now)
	}
	f.Drop(2, 0)
	made(t, f, 2, api.File)
	if now := f.Changes(2); len(now) != 2 {
		t.Error("Changes of the slot's things", now)
	}
}

// P15.1, rule 4: lists that are answered share no memory, and lists that are handed in are not changed, nor kept.
func TestLists(t *testing.T) {
	f, v := one(t)
	at(t, f, 2, 0, 6)
	for _, list := range []func() []int{
		func() []int { l, _ := f.Data(2); return l },
		func() []int { return owned(t, f, 2) },
	} {
		want := slices.Clone(list())
		got := list()
		clear(got)
		_ = append(got[:1], 9)
		if !slices.Equal(list(), want) {
			t.Error("a list is kept")
		}
	}
	want := f.Changes(2)
	got := f.Changes(2)
	clear(got)
	_ = append(got[:1], 9)
	if !slices.Equal(f.Changes(2), want) {
		t.Error("Changes are kept")
	}
	b, _ := f.Read(2, 0, 1)
	b[0] = 'y'
	read(t, f, 2, 0, 1, "x")
	in, after := []byte("abc"), []int64{0, f.Last(2), 0}
	answers(t, "Write", f.Write(2, 0, in), api.OK)
	id, e := f.Patch(2, 6, 0, in, after...)
	if e != api.OK || !slices.Equal(after, []int64{0, f.Last(2), 0}) {
		t.Error("Patch", id, e, after)
	}
	clear(in)
	clear(after)
	read(t, f, 2, 0, 3, "abc")
	read(t, f, 2, 6*256, 3, "a")
	if !slices.Contains(v.Store().Waits(id), f.Last(2)) {
		t.Error("Waits", v.Store().Waits(id))
	}
}

// P15.2: each block stands on its own way; 0 of a hole, also within a block of names and behind none.
func TestWhere(t *testing.T) {
	f, _ := one(t)
	for _, n := range append([]int{-1, 4166, 4167}, far...) {
		if b, e := f.Where(2, n); b != 0 || e != api.ErrBig {
			t.Error("Where", n, b, e)
		}
	}
	for _, n := range []int{0, 5, 6, 69, 70, 4165} {
		where(t, f, 2, n, false)
	}
	ns := []int{0, 5, 6, 69, 70, 133, 134, 4102, 4165}
	at(t, f, 2, ns...)
	met := map[int]int{}
	for _, n := range ns {
		met[where(t, f, 2, n, true)]++
	}
	if len(met) != len(ns) {
		t.Error("blocks that are two", met)
	}
	for _, n := range []int{1, 4, 7, 68, 71, 132, 135, 197, 198, 4101, 4103, 4164} {
		where(t, f, 2, n, false)
	}
	i := thingOf(t, f, 2)
	if i.P[0] != where(t, f, 2, 0, true) || i.P[5] != where(t, f, 2, 5, true) || i.P[1] != 0 || i.In == 0 || i.Din == 0 {
		t.Error("the inode", i)
	}
}

// P15.2: Data by n, not by numbers; Owned rising, with blocks of names.
func TestDataOwned(t *testing.T) {
	f, _ := one(t)
	if l, e := f.Data(2); len(l) != 0 || e != api.OK || len(owned(t, f, 2)) != 0 {
		t.Error("Data of no bytes", l, e)
	}
	ns := []int{4165, 134, 71, 70, 7, 6, 5, 0}
	at(t, f, 2, ns...)
	slices.Reverse(ns)
	data, e := f.Data(2)
	answers(t, "Data", e, api.OK)
	for k, n := range ns {
		if len(data) != len(ns) || data[k] != where(t, f, 2, n, true) {
			t.Error("Data", n, data)
		}
	}
	i, all := thingOf(t, f, 2), owned(t, f, 2)
	if slices.IsSorted(data) || !slices.IsSorted(all) || len(all) != len(ns)+5 || !slices.Contains(all, i.In) || !slices.Contains(all, i.Din) {
		t.Error("Owned", all, data)
	}
	for _, b := range data {
		if !slices.Contains(all, b) {
			t.Error("Owned without", b)
		}
	}
}

// P15.2: blocks behind the Size are the thing's, too: they are named.
func TestBehindSize(t *testing.T) {
	f, _, _ := fresh(t, large)
	f.Put(2, api.Inode{Kind: api.File, Size: 3, Id: 9, P: [api.Direct]int{7, 0, 9}})
	if l, _ := f.Data(2); !slices.Equal(l, []int{7, 9}) || where(t, f, 2, 2, true) != 9 {
		t.Error("Data", l)
	}
	if b, e := f.Read(2, 0, 300); len(b) != 3 || e != api.OK {
		t.Error("Read", b, e)
	}
}

// P15.2: rows end where the next block is not the one behind, and where the next n is not.
func TestExtents(t *testing.T) {
	f, _, _ := fresh(t, large)
	for _, c := range []struct {
		p    [api.Direct]int
		want int
	}{
		{[api.Direct]int{}, 0},
		{[api.Direct]int{7}, 1},
		{[api.Direct]int{0, 0, 0, 0, 0, 7}, 1},
		{[api.Direct]int{7, 8, 9, 10, 11, 12}, 1},
		{[api.Direct]int{7, 9, 8, 10, 11, 12}, 4},
		{[api.Direct]int{7, 0, 8, 9}, 2},
		{[api.Direct]int{7, 0, 9, 10}, 2},
		{[api.Direct]int{12, 11, 10, 9, 8, 7}, 6},
		{[api.Direct]int{0, 1, 2, 7, 8}, 1}, // superblocks and headers are no blocks of a thing
		{[api.Direct]int{7, 8, 0, 0, 9, 10}, 2},
	} {
		f.Put(2, api.Inode{Kind: api.File, Id: 9, P: c.p})
		if n, e := f.Extents(2); n != c.want || e != api.OK {
			t.Errorf("Extents of %v: %d, %d", c.p, n, e)
		}
	}
}

// A new thing's blocks stand one behind the other, also where a block of names comes to be on the way; more bytes follow behind, and a thing of another group begins in that.
func TestOneRow(t *testing.T) {
	f, _, _ := fresh(t, large)
	for slot, first := range map[int]int{2: 5, 11: 53} {
		made(t, f, slot, api.File)
		answers(t, "Write", f.Write(slot, 0, make([]byte, 3*256)), api.OK)
		answers(t, "Write", f.Write(slot, 3*256, make([]byte, 4096-256)), api.OK)
		if n, e := f.Extents(slot); n != 1 || e != api.OK || where(t, f, slot, 0, true) != first {
			t.Error("Extents", n, e)
		}
	}
}

// More bytes of a thing follow behind those that it has, though blocks ahead of them are free.
func TestRowGoesOn(t *testing.T) {
	f, v := one(t)
	made(t, f, 3, api.File)
	at(t, f, 2, 0, 1, 2)
	at(t, f, 3, 0)
	answers(t, "Drop", f.Drop(2, 0), api.OK)
	settled(f, v)
	answers(t, "Write", f.Write(3, 256, make([]byte, 512)), api.OK)
	if n, e := f.Extents(3); n != 1 || e != api.OK || where(t, f, 3, 2, true) != 10 {
		t.Error("Extents", n, e)
	}
	f.Move(3, 0, 30)
	f.Resize(3, 256)
	answers(t, "Write", f.Write(3, 0, make([]byte, 512)), api.OK)
	if n, e := f.Extents(3); n != 1 || e != api.OK || where(t, f, 3, 1, true) != 32 {
		t.Error("Extents", n, e)
	}
}

// P15.2: Read within, at and behind the Size, over holes; wrong places and numbers.
func TestRead(t *testing.T) {
	f, _ := one(t)
	read(t, f, 2, 0, 4096, "")
	wrote(t, f, 2, 250, "0123456789")
	wrote(t, f, 2, 3*256, "end")
	zero := string(make([]byte, 1000))
	read(t, f, 2, 250, 10, "0123456789")
	read(t, f, 2, 250, 0, "")
	read(t, f, 2, 251, 1, "1")
	read(t, f, 2, 0, 251, zero[:250]+"0")
	read(t, f, 2, 259, 300, "9"+zero[:299])
	read(t, f, 2, 3*256-1, 4096, "\x00end")
	read(t, f, 2, 0, 4096, zero[:250]+"0123456789"+zero[:508]+"end")
	read(t, f, 2, 3*256+2, 1, "d")
	read(t, f, 2, 3*256+3, 1, "")
	read(t, f, 2, 3*256+4, 1, "")
	read(t, f, 2, math.MaxInt64, 4096, "")
	for _, off := range []int64{-1, math.MinInt64} {
		if b, e := f.Read(2, off, 0); len(b) != 0 || e != api.ErrRange {
			t.Error("Read from", off, b, e)
		}
	}
	for _, n := range []int{-1, math.MinInt, 4097, math.MaxInt} {
		if b, e := f.Read(2, 0, n); len(b) != 0 || e != api.ErrRange {
			t.Error("Read of", n, e)
		}
	}
}

// P15.2: names that are no data blocks are none, in whatever block of names they stand: no call stumbles over them.
func TestWrongNames(t *testing.T) {
	for _, wrong := range []int{1, 2, 3, 50, 51, 98, 4095} {
		f, v, _ := fresh(t, large)
		made(t, f, 2, api.File)
		at(t, f, 2, 6, 70)
		i := thingOf(t, f, 2)
		name := []byte{byte(wrong), byte(wrong >> 8), 0, 0}
		v.SetData(i.In, 4, name)
		v.SetData(i.Din, 4, name)
		v.SetData(i.Din, 8, []byte{255, 255, 255, 255})
		i.P[1] = wrong
		f.Put(2, i)
		for _, n := range []int{1, 7, 134, 135, 198, 199} {
			where(t, f, 2, n, false)
			if _, e := f.Patch(2, n, 0, []byte("y")); e != api.ErrNone {
				t.Error("Patch", e)
			}
		}
		if all := owned(t, f, 2); len(all) != 5 {
			t.Error("Owned", all)
		}
		if _, e := f.Carry(2, wrong, 0); e != api.ErrNone {
			t.Error("Carry", e)
		}
		read(t, f, 2, 7*256, 3, "\x00\x00\x00")
		for _, n := range []int64{1, 7, 134, 198} {
			wrote(t, f, 2, n*256, "new")
			read(t, f, 2, n*256, 3, "new")
		}
		answers(t, "Resize", f.Resize(2, 7*256), api.OK)
		if i := thingOf(t, f, 2); i.Din != 0 {
			t.Error("Din", i)
		}
		f.Put(3, api.Inode{Kind: api.File, Id: 8, Size: 9999999 % 1000000, P: [api.Direct]int{wrong}, In: wrong, Din: wrong})
		if all := owned(t, f, 3); len(all) != 0 {
			t.Error("Owned", all)
		}
		answers(t, "Resize", f.Resize(3, 0), api.OK)
		if i := thingOf(t, f, 3); i != (api.Inode{Kind: api.File, Id: 8}) {
			t.Error("names that are left", i)
		}
		answers(t, "Drop", f.Drop(2, 0), api.OK)
	}
}

// Blocks that stand in more than one place, of a volume that was not put right, are told once, and no call loops.
func TestNamedTwice(t *testing.T) {
	f, v, _ := fresh(t, large)
	f.Put(2, api.Inode{Kind: api.File, Id: 8, Size: 500, P: [api.Direct]int{7, 7}, In: 7, Din: 7})
	v.SetData(7, 0, bytes.Repeat([]byte{7, 0, 0, 0}, 64))
	if all := owned(t, f, 2); !slices.Equal(all, []int{7}) {
		t.Error("Owned", all)
	}
	if l, e := f.Data(2); len(l) != 2+64+64*64 || e != api.OK {
		t.Error("Data", len(l), e)
	}
	answers(t, "Resize", f.Resize(2, 0), api.OK)
	f.Put(2, api.Inode{Kind: api.File, Id: 8, Size: 500, P: [api.Direct]int{7, 7}, In: 7, Din: 7})
	answers(t, "Drop", f.Drop(2, 0), api.OK)
}

// P15.3, and the chapter's example.
func TestWrite(t *testing.T) {
	f, _ := one(t)
	answers(t, "Write", f.Write(2, 0, bytes.Repeat([]byte("z"), 300)), api.OK)
	if l, _ := f.Data(2); len(l) != 2 || thingOf(t, f, 2).Size != 300 {
		t.Error("Data", l)
	}
	read(t, f, 2, 299, 9, "z")
	wrote(t, f, 2, 100, "abc")
	read(t, f, 2, 99, 5, "zabcz")
	if thingOf(t, f, 2).Size != 300 {
		t.Error("Size", thingOf(t, f, 2).Size)
	}
	wrote(t, f, 2, 298, "abc")
	read(t, f, 2, 297, 9, "zabc")
	answers(t, "Resize", f.Resize(2, 10), api.OK)
	answers(t, "Resize", f.Resize(2, 20), api.OK)
	read(t, f, 2, 9, 99, "z"+string(make([]byte, 10)))
	wrote(t, f, 2, 30, "!")
	read(t, f, 2, 9, 99, "z"+string(make([]byte, 20))+"!")
}

// P15.3: bytes that end where a file may end, and one behind it; an empty list of them, too.
func TestWriteEnds(t *testing.T) {
	f, v := one(t)
	most := int64(api.MaxFile * api.Block)
	unchanged := same(f, v)
	for _, c := range []struct {
		off  int64
		n    int
		want api.Errno
	}{
		{-1, 0, api.ErrRange}, {-1, 4097, api.ErrRange}, {math.MinInt64, 1, api.ErrRange},
		{0, 4097, api.ErrRange}, {most, 4097, api.ErrRange}, {math.MaxInt64, 5000, api.ErrRange},
		{most, 1, api.ErrBig}, {most - 1, 2, api.ErrBig}, {most - 4095, 4096, api.ErrBig},
		{most + 1, 0, api.ErrBig}, {math.MaxInt64, 0, api.ErrBig}, {math.MaxInt64, 4096, api.ErrBig},
		{most, 0, api.OK}, {0, 0, api.OK}, {77, 0, api.OK},
	} {
		answers(t, "Write", f.Write(2, c.off, make([]byte, c.n)), c.want)
	}
	answers(t, "Write", f.Write(2, 5, nil), api.OK)
	if !unchanged() || thingOf(t, f, 2).Size != 0 {
		t.Error("what was refused, or had no bytes, changed something")
	}
	wrote(t, f, 2, most-3, "end")
	read(t, f, 2, most-5, 9, "\x00\x00end")
	if thingOf(t, f, 2).Size != most || len(owned(t, f, 2)) != 3 {
		t.Error("Size", thingOf(t, f, 2))
	}
	answers(t, "Write", f.Write(2, most-4096, make([]byte, 4096)), api.OK)
	if len(owned(t, f, 2)) != 18 {
		t.Error("Owned", owned(t, f, 2))
	}
}

// P15.3: a symbolic link ends at 255, its bytes being a path; an empty list of bytes does, too.
func TestWriteLink(t *testing.T) {
	f, _, _ := fresh(t, large)
	made(t, f, 2, api.Link)
	for _, c := range []struct {
		off  int64
		n    int
		want api.Errno
	}{
		{255, 1, api.ErrArg}, {256, 0, api.ErrArg}, {0, 256, api.ErrArg}, {api.MaxFile * 256, 0, api.ErrArg}, {api.MaxFile * 256, 1, api.ErrBig},
		{255, 0, api.OK}, {254, 1, api.OK}, {0, 255, api.OK},
	} {
		answers(t, "Write", f.Write(2, c.off, make([]byte, c.n)), c.want)
	}
	if i := thingOf(t, f, 2); i.Size != 255 {
		t.Error("Size", i)
	}
}

// P15.3: a directory has whole blocks, whatever is written.
func TestWriteDir(t *testing.T) {
	f, _, _ := fresh(t, large)
	wrote(t, f, vol.Root, 300, "abc")
	if i := thingOf(t, f, vol.Root); i.Size != 512 || i.P[0] != 0 || i.P[1] == 0 {
		t.Error("Size", i)
	}
	read(t, f, vol.Root, 299, 999, "\x00abc"+string(make([]byte, 209)))
	wrote(t, f, vol.Root, 256, string(make([]byte, 256)))
	if i := thingOf(t, f, vol.Root); i.Size != 512 {
		t.Error("Size", i)
	}
}

// P15.3: as many blocks as ptr.Need are asked to be free, also of bytes that need none; in frozen groups none is.
func TestWriteSpace(t *testing.T) {
	f, v, _ := fresh(t, api.Geo{Group: 16, Inodes: 8, Groups: 1})
	made(t, f, 2, api.File)
	made(t, f, 3, api.File)
	at(t, f, 2, 0, 1, 2, 3, 4, 5, 6, 7) // nine of the thirteen
	at(t, f, 3, 0)                      // Need 4 of four
	unchanged := same(f, v)
	answers(t, "Write", f.Write(2, 0, []byte("y")), api.ErrSpace)
	answers(t, "Write", f.Write(3, 1*256, []byte("y")), api.ErrSpace)
	answers(t, "Write", f.Write(3, 0, nil), api.OK)
	answers(t, "Write", f.Write(2, -1, []byte("y")), api.ErrRange)
	answers(t, "Write", f.Write(2, api.MaxFile*256, []byte("y")), api.ErrBig)
	if !unchanged() {
		t.Error("what was refused changed something")
	}
	read(t, f, 2, 0, 1, "x")
	answers(t, "Resize", f.Resize(2, 256), api.OK)
	answers(t, "Write", f.Write(3, 256, []byte("y")), api.ErrSpace) // what is given waits
	settled(f, v)
	if b, _ := f.Alloc().Free(); b != 11 {
		t.Error("Free", b)
	}
	f.Alloc().Freeze(0, true)
	answers(t, "Write", f.Write(3, 256, []byte("y")), api.ErrSpace)
	f.Alloc().Freeze(0, false)
	answers(t, "Write", f.Write(3, 0, make([]byte, 8*256)), api.OK) // Need 11
	answers(t, "Write", f.Write(3, 0, make([]byte, 256)), api.ErrSpace)
}

// P15.3, P15.4: bytes that stand behind the Size on the disk, or were patched there, are 0 when they come to be the thing's.
func TestBytesBehindSize(t *testing.T) {
	for name, more := range map[string]func(f *file.Files){
		"Resize": func(f *file.Files) { f.Resize(2, 400) },
		"Write":  func(f *file.Files) { f.Write(2, 399, []byte{0}) },
		"next":   func(f *file.Files) { f.Write(2, 9*256, []byte{0}) },
	} {
		f, _, _ := fresh(t, large)
		made(t, f, 2, api.File)
		wrote(t, f, 2, 0, "abc")
		if _, e := f.Patch(2, 0, 100, []byte("behind")); e != api.OK {
			t.Error("Patch", e)
		}
		read(t, f, 2, 0, 300, "abc")
		more(f)
		read(t, f, 2, 0, 300, "abc"+string(make([]byte, 297)))
		if name == "next" {
			continue
		}
		if i := thingOf(t, f, 2); i.Size != 400 {
			t.Error(name, i.Size)
		}
	}
}

// P15.4: a change of its bytes, behind others of which 0 is none, that is one of the thing.
func TestPatch(t *testing.T) {
	f, v := one(t)
	at(t, f, 2, 0, 6, 70)
	push.All(v.Store())
	other, _ := v.SetData(40, 0, []byte("o"))
	for _, n := range []int{0, 6, 70} {
		id, e := f.Patch(2, n, 255, []byte("y"), 0, other, 0)
		if b, _ := v.Store().Block(id); e != api.OK || b != where(t, f, 2, n, true) || !slices.Equal(v.Store().Waits(id), []int64{other, id}) {
			t.Error("Patch", id, e, v.Store().Waits(id))
		}
		if all := f.Changes(2); len(all) == 0 || all[len(all)-1] != id {
			t.Error("Changes", all, id)
		}
	}
	read(t, f, 2, 255, 1, "y")
	if i := thingOf(t, f, 2); i.Size != 70*256+1 {
		t.Error("Size", i.Size)
	}
	free, e := f.Patch(2, 0, 0, []byte("z"), 0)
	if waits := v.Store().Waits(free); e != api.OK || !slices.Equal(waits, []int64{free}) {
		t.Error("Patch behind none", free, e, waits)
	}
}

// P15.4: Where's errors, no block, then the volume's.
func TestPatchRefused(t *testing.T) {
	f, v := one(t)
	at(t, f, 2, 0, 7, 71)
	unchanged := same(f, v)
	for _, n := range append([]int{4166}, far...) {
		if id, e := f.Patch(2, n, -1, nil, -1); id != 0 || e != api.ErrBig {
			t.Error("Patch", n, id, e)
		}
	}
	for _, n := range []int{1, 5, 6, 8, 70, 72, 134, 4165} {
		if id, e := f.Patch(2, n, -1, nil, -1); id != 0 || e != api.ErrNone {
			t.Error("Patch", n, id, e)
		}
	}
	for _, from := range []int{-1, 256, 255, math.MinInt, math.MaxInt} {
		if id, e := f.Patch(2, 7, from, []byte("yy"), -1); id != 0 || e != api.ErrSize {
			t.Error("Patch", from, id, e)
		}
	}
	if id, e := f.Patch(2, 7, 0, nil); id != 0 || e != api.ErrSize {
		t.Error("Patch of no bytes", id, e)
	}
	for _, after := range []int64{-1, 9999, math.MinInt64, math.MaxInt64} {
		if id, e := f.Patch(2, 7, 0, []byte("y"), 0, after); id != 0 || e != api.ErrArg {
			t.Error("Patch behind", after, id, e)
		}
	}
	if !unchanged() {
		t.Error("what was refused changed something")
	}
}

// P15.4: which blocks stay with a Size, those of names too, and that the others are given.
func TestResize(t *testing.T) {
	all := []int{0, 5, 6, 7, 69, 70, 71, 133, 134, 197, 198, 4165}
	for _, c := range []struct {
		size   int64
		blocks int // of bytes that stay
		names  int
	}{
		{0, 0, 0}, {1, 1, 0}, {256, 1, 0}, {257, 1, 0}, {5*256 + 1, 2, 0}, {6 * 256, 2, 0},
		{6*256 + 1, 3, 1}, {7*256 - 1, 3, 1}, {7 * 256, 3, 1}, {8 * 256, 4, 1}, {69 * 256, 4, 1}, {70 * 256, 5, 1},
		{70*256 + 1, 6, 3}, {72 * 256, 7, 3}, {134 * 256, 8, 3}, {134*256 + 1, 9, 4}, {198 * 256, 10, 4}, {198*256 + 1, 11, 5},
		{4102 * 256, 11, 5}, {4102*256 + 1, 11, 6}, {4165*256 + 1, 12, 6}, {4166 * 256, 12, 6},
	} {
		f, v := one(t)
		at(t, f, 2, all...)
		answers(t, "Resize", f.Resize(2, 4166*256), api.OK)
		settled(f, v)
		answers(t, "Resize", f.Resize(2, c.size), api.OK)
		data, _ := f.Data(2)
		if own := owned(t, f, 2); thingOf(t, f, 2).Size != c.size || len(data) != c.blocks || len(own) != c.blocks+c.names {
			t.Errorf("Resize(%d): %v, %v", c.size, data, own)
		}
		for k, n := range all {
			where(t, f, 2, n, k < c.blocks)
		}
		settled(f, v)
		used, _, _ := f.Alloc().Used(0)
		if used != c.blocks+c.names || v.Work().Len() != 0 {
			t.Errorf("Resize(%d): %d blocks are taken", c.size, used)
		}
		answers(t, "Resize", f.Resize(2, 4166*256), api.OK)
		for k, n := range all {
			want := "\x00"
			if k < c.blocks && int64(n)*256 < c.size {
				want = "x"
			}
			read(t, f, 2, int64(n)*256, 1, want)
		}
	}
}

// P15.4: what goes is given behind the change by which nothing names it, and is not free ahead of that.
func TestResizeGives(t *testing.T) {
	f, v := one(t)
	at(t, f, 2, 0, 6, 7, 70, 134)
	push.All(v.Store())
	free, _ := f.Alloc().Free()
	answers(t, "Resize", f.Resize(2, 7*256), api.OK)
	if v.Work().Len() != 6 || f.Alloc().Settle() != 0 {
		t.Error("what waits", v.Work().List())
	}
	// the name in In's block, and the inode behind it
	all := f.Changes(2)
	if len(all) != 2 || all[1] != f.Last(2) {
		t.Fatal("Changes", all)
	}
	push.One(v.Store(), all[0])
	if n := f.Alloc().Settle(); n != 1 {
		t.Error("given behind the name", n)
	}
	push.One(v.Store(), all[1])
	if n := f.Alloc().Settle(); n != 5 {
		t.Error("given behind the inode", n)
	}
	if now, _ := f.Alloc().Free(); now != free+6 {
		t.Error("Free", now, free)
	}
}

// P15.4: a name that goes out of a block of names that was carried waits for the one of the new block: ahead of that the old one is named on the disk, and names the block still.
func TestResizeBehindCarry(t *testing.T) {
	for _, which := range []string{"In", "Din", "under Din"} {
		f, v, d := fresh(t, large)
		made(t, f, 2, api.File)
		made(t, f, 3, api.File)
		at(t, f, 2, 6, 7, 70, 71, 134)
		push.All(v.Store())
		size, lost := int64(7*256), 7
		i := thingOf(t, f, 2)
		b := i.In
		if which != "In" {
			size, lost = 71*256, 71
			b = i.Din
		}
		if which == "under Din" {
			names, _ := v.Data(i.Din)
			b = int(names[0])
		}
		old := where(t, f, 2, lost, true)
		if _, e := f.Carry(2, b, 30); e != api.OK {
			t.Fatal("Carry", e)
		}
		carried := f.Changes(2)
		answers(t, "Resize", f.Resize(2, size), api.OK)
		for _, id := range f.Changes(2)[len(carried):] {
			for _, before := range carried {
				if !slices.Contains(v.Store().Waits(id), before) {
					t.Errorf("%s: the change %d does not wait for %d", which, id, before)
				}
			}
		}
		// make just as much safe as lets the block be taken anew, by another file
		for _, id := range f.Changes(2) {
			push.One(v.Store(), id)
			f.Alloc().Settle()
			if !f.Alloc().Taken(old) {
				break
			}
		}
		wrote(t, f, 3, 0, "y")
		for _, id := range f.Changes(3) {
			push.One(v.Store(), id)
		}
		d.Crash(nil)
		past := newModel()
		past.past[102], past.past[103] = history{}, history{}
		for _, n := range []int64{6, 7, 70, 71, 134} {
			past.past[102][n*256] = map[byte]int{'x': 1}
		}
		past.past[103][0] = map[byte]int{'y': 1}
		past.crashed(t, d, large)
	}
}

// P15.4: Resize's errors in their order, of all kinds of things.
func TestResizeRefused(t *testing.T) {
	f, v, _ := fresh(t, large)
	for k, kind := range []int{api.File, api.Dir, api.Link} {
		slot := 2 + k
		made(t, f, slot, kind)
		unchanged := same(f, v)
		for _, size := range []int64{-1, -256, math.MinInt64} {
			answers(t, "Resize", f.Resize(slot, size), api.ErrRange)
		}
		for _, size := range []int64{api.MaxFile*256 + 1, api.MaxFile*256 + 256, math.MaxInt64} {
			answers(t, "Resize", f.Resize(slot, size), api.ErrBig)
		}
		if !unchanged() {
			t.Error("what was refused changed something")
		}
		for _, size := range []int64{0, 1, 255, 256, 257, 512, api.MaxFile*256 - 1, api.MaxFile * 256} {
			want, before := api.OK, thingOf(t, f, slot).Size
			if kind == api.Link || kind == api.Dir && size%256 != 0 {
				want = api.ErrArg
			} else {
				before = size
			}
			answers(t, "Resize", f.Resize(slot, size), want)
			if now := thingOf(t, f, slot).Size; now != before {
				t.Error("Size", kind, size, now)
			}
		}
	}
}

// P15.4: the Size that it has already changes nothing.
func TestResizeSame(t *testing.T) {
	f, v := one(t)
	wrote(t, f, 2, 0, "abc")
	unchanged := same(f, v)
	answers(t, "Resize", f.Resize(2, 3), api.OK)
	wrote(t, f, 2, 0, "")
	if !unchanged() {
		t.Error("Resize to the same")
	}
	read(t, f, 2, 0, 9, "abc")
}

// P15.4: where no name and no byte goes, the inode alone is changed.
func TestResizeInode(t *testing.T) {
	f, v := one(t)
	at(t, f, 2, 6, 71)
	push.All(v.Store())
	for _, size := range []int64{4000 * 256, 200 * 256, 72 * 256, 71*256 + 1} {
		before := v.Store().Open()
		answers(t, "Resize", f.Resize(2, size), api.OK)
		if all := f.Changes(2); v.Store().Open() != before+1 || all[len(all)-1] != f.Last(2) {
			t.Error("Changes", all)
		}
	}
}

// P15.4: the inode is free behind a change, and all it owned, and its slot, behind that.
func TestDrop(t *testing.T) {
	f, v, _ := fresh(t, large)
	slot, id, _ := f.Alloc().Slot(1)
	f.Put(slot, api.Inode{Kind: api.File, Links: 1, Id: 9}, id)
	at(t, f, slot, 0, 6, 70)
	push.All(v.Store())
	blocks, slots := f.Alloc().Free()
	other, _ := v.SetData(40, 0, []byte("o"))
	answers(t, "Drop", f.Drop(slot, other), api.OK)
	last := f.Last(slot)
	if waits := v.Store().Waits(last); !slices.Equal(waits, []int64{other, last}) || thingOf(t, f, slot) != (api.Inode{}) {
		t.Error("Waits", waits)
	}
	if v.Work().Len() != 7 || f.Alloc().Settle() != 0 {
		t.Error("what waits", v.Work().List())
	}
	answers(t, "Drop", f.Drop(slot, 0), api.ErrNone)
	push.One(v.Store(), last)
	if n := f.Alloc().Settle(); n != 7 {
		t.Error("Settle", n)
	}
	if b, s := f.Alloc().Free(); b != blocks+6 || s != slots+1 {
		t.Error("Free", b, s)
	}
}

// P15.4: Drop behind what is no change; slots that were never taken, and the root's, are not given, and the thing is gone all the same.
func TestDropEdges(t *testing.T) {
	f, v := one(t)
	at(t, f, 2, 0)
	unchanged := same(f, v)
	for _, after := range []int64{-1, 9999, math.MinInt64, math.MaxInt64} {
		answers(t, "Drop", f.Drop(2, after), api.ErrArg)
	}
	if !unchanged() || thingOf(t, f, 2).Kind != api.File {
		t.Error("what was refused changed something")
	}
	for _, slot := range []int{2, vol.Root} {
		answers(t, "Drop", f.Drop(slot, 0), api.OK)
		if waits := v.Store().Waits(f.Last(slot)); thingOf(t, f, slot) != (api.Inode{}) || len(waits) == 0 {
			t.Error("Drop", slot)
		}
	}
	settled(f, v)
	if b, _, _ := f.Alloc().Used(0); b != 0 {
		t.Error("Used", b)
	}
}

// P15.5: every block of a thing is carried, with its bytes, near another one, behind all changes of the thing; the old one is given behind the name of the new one.
func TestCarry(t *testing.T) {
	f, v := one(t)
	ns := []int{0, 5, 6, 69, 70, 134}
	at(t, f, 2, ns...)
	push.All(v.Store())
	for _, b := range owned(t, f, 2) {
		open, _ := f.Patch(2, 0, 9, []byte("o"))
		bytes, _ := v.Data(b)
		to, e := f.Carry(2, b, 60)
		if e != api.OK || to <= 60 {
			t.Error("Carry", b, to, e)
		}
		if now, _ := v.Data(to); string(now) != string(bytes) {
			t.Errorf("%x, not %x", now, bytes)
		}
		if own := owned(t, f, 2); slices.Contains(own, b) || !slices.Contains(own, to) || len(own) != 10 {
			t.Error("Owned", b, to, own)
		}
		all := f.Changes(2)
		named := all[len(all)-1]
		if waits := v.Store().Waits(named); len(all) != 3 || !slices.Contains(waits, open) || !slices.Contains(waits, all[1]) {
			t.Error("Waits", waits, all)
		}
		if !f.Alloc().Taken(b) || !f.Alloc().Taken(to) || v.Work().Len() != 1 || f.Alloc().Settle() != 0 {
			t.Error("what waits", v.Work().List())
		}
		push.One(v.Store(), all[1])
		if f.Alloc().Settle() != 0 {
			t.Error("given ahead of the new name")
		}
		push.One(v.Store(), named)
		if f.Alloc().Settle() != 1 || f.Alloc().Taken(b) {
			t.Error("not given", b)
		}
		for _, n := range ns {
			read(t, f, 2, int64(n)*256, 1, "x")
		}
		push.All(v.Store())
	}
	if i := thingOf(t, f, 2); i.Size != 134*256+1 || i.Links != 1 || i.Id != 102 {
		t.Error("the inode", i)
	}
}

// P15.5: what is carried waits for what its bytes wait for in the old block.
func TestCarryWaits(t *testing.T) {
	f, v := one(t)
	at(t, f, 2, 0)
	push.All(v.Store())
	other, _ := v.SetData(40, 0, []byte("o"))
	patch, _ := f.Patch(2, 0, 0, []byte("y"), other)
	to, e := f.Move(2, 0, 20)
	if to != 21 || e != api.OK {
		t.Error("Move", to, e)
	}
	image, _ := v.Store().Image(to)
	if image[0] != never {
		t.Error("the new block may be written ahead of what its bytes wait for")
	}
	for _, id := range f.Changes(2)[1:] {
		waits := v.Store().Waits(id)
		if !slices.Contains(waits, other) || !slices.Contains(waits, patch) {
			t.Error("Waits", waits)
		}
	}
}

// P15.5: Move's errors in their order, and Carry's.
func TestMoveRefused(t *testing.T) {
	f, v, _ := fresh(t, api.Geo{Group: 16, Inodes: 8, Groups: 1})
	made(t, f, 2, api.File)
	made(t, f, 3, api.File)
	at(t, f, 2, 0, 6)
	at(t, f, 3, 0)
	for _, n := range append([]int{4166}, far...) {
		if to, e := f.Move(2, n, 0); to != 0 || e != api.ErrBig {
			t.Error("Move", n, to, e)
		}
	}
	for {
		if _, _, e := f.Alloc().Block(0); e != api.OK {
			break
		}
	}
	unchanged := same(f, v)
	for _, n := range []int{1, 5, 7, 70, 4165} {
		if to, e := f.Move(2, n, 0); to != 0 || e != api.ErrNone {
			t.Error("Move", n, to, e)
		}
	}
	for _, b := range append([]int{0, 1, 2, 3, where(t, f, 3, 0, true), 17, 18}, far...) {
		if to, e := f.Carry(2, b, b); to != 0 || e != api.ErrNone {
			t.Error("Carry", b, to, e)
		}
	}
	for _, n := range []int{0, 6} {
		if to, e := f.Move(2, n, 9); to != 0 || e != api.ErrSpace {
			t.Error("Move", n, to, e)
		}
	}
	for _, b := range owned(t, f, 2) {
		if to, e := f.Carry(2, b, b); to != 0 || e != api.ErrSpace {
			t.Error("Carry", b, to, e)
		}
	}
	if !unchanged() {
		t.Error("what was refused changed something")
	}
}

// P15.5: a block moves away from a frozen group, and near may be any number.
func TestMoveNear(t *testing.T) {
	f, _ := one(t)
	at(t, f, 2, 0)
	f.Alloc().Freeze(0, true)
	if to, e := f.Move(2, 0, 10); to != 53 || e != api.OK {
		t.Error("Move", to, e)
	}
	f.Alloc().Freeze(0, false)
	want := 6 // 5 is given, and waits
	for _, near := range []int{-1, math.MinInt, math.MaxInt, 0, 98} {
		if to, e := f.Move(2, 0, near); to != want || e != api.OK {
			t.Error("Move", near, to, e)
		}
		want++
	}
}

// P15.6: things of a volume that is full, and then has nothing.
func TestAllTaken(t *testing.T) {
	f, v, d := fresh(t, large)
	all, _ := f.Alloc().Free()
	for {
		slot, id, e := f.Alloc().Slot(0)
		if e != api.OK {
			break
		}
		f.Put(slot, api.Inode{Kind: api.File, Links: 1, Id: int64(slot)}, id)
		for n := 0; n < 10 && f.Write(slot, int64(n)*256, []byte{byte(slot)}) == api.OK; n++ {
		}
	}
	settled(f, v)
	g, _ := again(t, d)
	owns := 0
	for slot := range geo.Slots(large) {
		own, _ := g.Owned(slot)
		owns += len(own)
	}
	if free, _ := g.Alloc().Free(); free+owns != all || free > 3 {
		t.Error("Free", free, owns, all)
	}
	for slot := range geo.Slots(large) {
		f.Drop(slot, 0)
	}
	settled(f, v)
	if free, _ := f.Alloc().Free(); free != all {
		t.Error("Free", free, all)
	}
}

// P15.7: a power cut behind any number of writes and flushes, and any of what was written there.
func TestPowerCut(t *testing.T) {
	script := func(m *machine) {
		file := func(slot int) {
			m.f.Put(slot, api.Inode{Kind: api.File, Links: 1, Id: int64(slot)})
			m.things[slot] = newThing(api.Inode{Kind: api.File, Links: 1, Id: int64(slot)})
		}
		lay := func(slot int, off int64, b string) {
			m.f.Write(slot, off, []byte(b))
			m.model.write(m.things[slot], off, []byte(b))
		}
		safe := func() {
			push.All(m.v.Store())
			m.a.Settle()
		}
		file(2)
		lay(2, 250, "first, over two blocks")
		safe()
		lay(2, 69*256+250, "by names, and by names of names")
		m.f.Resize(2, 255)
		safe()
		file(3)
		lay(3, 100, "another one's")
		m.f.Move(2, 0, 40)
		safe()
		lay(3, 6*256, "again")
		m.f.Drop(2, 0)
		safe()
		lay(3, 0, "in the blocks of what is gone")
		safe()
	}
	g := api.Geo{Group: 48, Inodes: 8, Groups: 1}
	r := dice(1)
	for stop, stopped := 0, true; stopped; stop++ {
		for pick := range 4 {
			m := newMachine(t, &r, g)
			m.d.Stop(stop)
			script(m)
			stopped = m.d.Stopped()
			picks := make([]int, 60)
			for i := range picks {
				picks[i] = []int{0, 9, i % 2, 1}[pick]
			}
			m.d.Crash(picks)
			m.crashed(t, m.d, g)
			if t.Failed() {
				t.Fatalf("Stop(%d), pick %d", stop, pick)
			}
		}
	}
}

// P15.7: the inode comes to be safe behind all that it names, of whatever way, and behind the headers; a new block is written whole or not.
func TestOrder(t *testing.T) {
	for _, n := range []int{0, 5, 6, 69, 70, 4165} {
		f, v := one(t)
		push.All(v.Store())
		at(t, f, 2, n)
		last := f.Last(2)
		if open := v.Store().Open(); len(v.Store().Waits(last)) != open {
			t.Errorf("the inode waits for %v of %d", v.Store().Waits(last), open)
		}
		image, _ := v.Store().Image(where(t, f, 2, n, true))
		if !bytes.Equal(image, append([]byte("x"), make([]byte, 255)...)) {
			t.Errorf("a new block is written as %x", image)
		}
	}
}

// P15.7: an inode that was written stands on the disk as it was told.
func TestSafe(t *testing.T) {
	f, v, d := fresh(t, large)
	made(t, f, 2, api.File)
	at(t, f, 2, 0, 6, 70, 4165)
	push.All(v.Store())
	d.Crash(nil)
	b, place, _ := geo.Place(large, 2)
	table, _ := d.Safe(b)
	i, e := inode.Read(table, place)
	if e != api.OK || i != thingOf(t, f, 2) {
		t.Error("on the disk", i, e)
	}
	g, _ := again(t, d)
	for _, n := range []int64{0, 6, 70, 4165} {
		read(t, g, 2, n*256, 1, "x")
	}
	if !slices.Equal(owned(t, g, 2), owned(t, f, 2)) || len(g.Changes(2)) != 0 || g.Last(2) != 0 {
		t.Error("mounted again", g.Changes(2), g.Last(2))
	}
}
