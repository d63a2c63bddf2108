package file_test

import (
	"bytes"
	"maps"
	"slices"
	"testing"

	"levee/alloc"
	"levee/api"
	"levee/disk"
	"levee/file"
	"levee/geo"
	"levee/group"
	"levee/inode"
	"levee/ptr"
	"levee/push"
	"levee/vol"
)

// never is a byte that no thing is given: it stands in all blocks that nobody wrote.
const never = 0xee

// dice gives the same numbers below n in every run.
type dice uint32

func (d *dice) below(n int) int {
	*d ^= *d << 13
	*d ^= *d >> 17
	*d ^= *d << 5
	return int(uint32(*d) % uint32(n))
}

// thing is one by the chapter's words: its blocks of bytes by their n, and which blocks of names it has, by the first n of each and how deep it is.
type thing struct {
	inode  api.Inode // without the names of blocks
	blocks map[int]*[api.Block]byte
	names  map[[2]int]int
}

func newThing(i api.Inode) *thing {
	return &thing{inode: i, blocks: map[int]*[api.Block]byte{}, names: map[[2]int]int{}}
}

// history is what was written into a thing, byte by byte.
type history map[int64]map[byte]int

// model is a volume's things by their slots, and what was ever written into each, by its number.
type model struct {
	things map[int]*thing
	past   map[int64]history
	nextId int64
}

func newModel() *model {
	return &model{things: map[int]*thing{}, past: map[int64]history{}, nextId: 2}
}

// write lays bytes into a thing.
func (m *model) write(x *thing, off int64, b []byte) {
	for i, v := range b {
		at := off + int64(i)
		n := int(at / api.Block)
		if x.blocks[n] == nil {
			x.blocks[n] = new([api.Block]byte)
			x.name(n)
		}
		x.blocks[n][at%api.Block] = v
		m.wrote(x, at, v)
	}
	end := off + int64(len(b))
	if x.inode.Kind == api.Dir {
		end = (end + 255) / 256 * 256
	}
	x.inode.Size = max(x.inode.Size, end)
}

// wrote remembers a byte.
func (m *model) wrote(x *thing, at int64, v byte) {
	h := m.past[x.inode.Id]
	if h == nil {
		h = history{}
		m.past[x.inode.Id] = h
	}
	if h[at] == nil {
		h[at] = map[byte]int{}
	}
	h[at][v]++
}

// name lets the blocks of names on the way to the n-th block be there.
func (x *thing) name(n int) {
	switch {
	case n < 6:
	case n < 70:
		x.names[[2]int{6, 1}]++
	default:
		x.names[[2]int{70, 2}]++
		x.names[[2]int{70 + (n-70)/64*64, 1}]++
	}
}

// resize cuts a thing, or lets it have more bytes.
func (x *thing) resize(size int64) {
	x.inode.Size = size
	blocks := int((size + 255) / 256)
	for n, b := range x.blocks {
		if n >= blocks {
			delete(x.blocks, n)
		} else if n == blocks-1 && size%256 != 0 {
			clear(b[size%256:])
		}
	}
	for k := range x.names {
		if k[0] >= blocks {
			delete(x.names, k)
		}
	}
}

// read is a thing's bytes.
func (x *thing) read(off int64, n int) []byte {
	n = int(max(min(int64(n), x.inode.Size-off), 0))
	b := make([]byte, n)
	for i := range b {
		at := off + int64(i)
		if block := x.blocks[int(at/256)]; block != nil {
			b[i] = block[at%256]
		}
	}
	return b
}

// bare is an inode without the names of blocks.
func bare(i api.Inode) api.Inode {
	i.P, i.In, i.Din = [api.Direct]int{}, 0, 0
	return i
}

// machine is a model, and the volume that is held against it.
type machine struct {
	*model
	t *testing.T
	r *dice
	d *disk.Disk
	v *vol.Vol
	a *alloc.Alloc
	f *file.Files
}

func (m *machine) mount() {
	m.t.Helper()
	v, e := vol.Mount(m.d)
	if e != api.OK {
		m.t.Fatal("Mount", e)
	}
	m.v, m.a = v, alloc.New(v)
	m.f = file.New(m.a)
}

// slot is some slot, mostly one that has a thing.
func (m *machine) slot() int {
	all := slices.Sorted(maps.Keys(m.things))
	if len(all) == 0 || m.r.below(12) == 0 {
		return m.r.below(geo.Slots(m.v.Geo())+4) - 2
	}
	return all[m.r.below(len(all))]
}

// off is some place in a thing's bytes: near its beginning, its Size, an end of a block, or of what a block of names names.
func (m *machine) off(x *thing) int64 {
	base := int64(0)
	switch m.r.below(8) {
	case 0, 1:
	case 2:
		base = x.inode.Size
	case 3:
		base = int64(m.r.below(6)) * 256
	case 4:
		base = 6 * 256
	case 5:
		base = 70 * 256
	case 6:
		base = int64(70+64*m.r.below(65)) * 256
	case 7:
		base = int64(m.r.below(api.MaxFile)) * 256
	}
	return base + int64(m.r.below(600)-300)
}

// there answers the thing of a slot, and the errno of a call on it.
func (m *machine) there(slot int) (*thing, api.Errno) {
	x := m.things[slot]
	switch {
	case x != nil:
		return x, api.OK
	case slot < 0 || slot >= geo.Slots(m.v.Geo()):
		return &thing{}, api.ErrRange
	}
	return &thing{}, api.ErrNone
}

// create puts a thing more into a slot that was taken.
func (m *machine) create() {
	slot, id, e := m.a.Slot(m.r.below(geo.Slots(m.v.Geo())))
	if e != api.OK {
		return
	}
	i := api.Inode{Kind: 1 + m.r.below(3), Links: 1, Id: m.nextId}
	if i.Kind == api.Link {
		i.Size = int64(1 + m.r.below(255))
	}
	m.nextId++
	if _, e := m.f.Put(slot, i, id); e != api.OK {
		m.t.Error("Put", e)
	}
	m.things[slot] = newThing(i)
}

// links gives a thing another number of links.
func (m *machine) links() {
	slot := m.slot()
	x, want := m.there(slot)
	i, e := m.f.Get(slot)
	if want == api.OK && (e != api.OK || bare(i) != x.inode) {
		m.t.Errorf("Get(%d): %v, %d, not %v", slot, i, e, x.inode)
	}
	if want != api.OK {
		return
	}
	i.Links = m.r.below(1001)
	x.inode.Links = i.Links
	if id, e := m.f.Put(slot, i); e != api.OK || m.f.Last(slot) != id {
		m.t.Error("Put", id, e)
	}
}

func (m *machine) write() {
	slot := m.slot()
	x, want := m.there(slot)
	off, b := m.off(x), make([]byte, m.r.below(900))
	if m.r.below(4) == 0 {
		b = make([]byte, m.r.below(4200))
	}
	if x.inode.Kind == api.Link && m.r.below(5) > 0 {
		off, b = int64(m.r.below(200)), b[:min(len(b), m.r.below(60))]
	}
	for i := range b {
		b[i] = byte(m.r.below(never))
	}
	free, _ := m.a.Free()
	end := off + int64(len(b))
	switch {
	case want != api.OK:
	case off < 0 || len(b) > 4096:
		want = api.ErrRange
	case end > api.MaxFile*256:
		want = api.ErrBig
	case x.inode.Kind == api.Link && end > 255:
		want = api.ErrArg
	case len(b) == 0:
	case free < ptr.Need(off, len(b)):
		want = api.ErrSpace
	}
	given := bytes.Clone(b)
	answers(m.t, "Write", m.f.Write(slot, off, b), want)
	if !bytes.Equal(given, b) {
		m.t.Error("Write changed what it was given")
	}
	clear(b)
	if want == api.OK && len(b) > 0 {
		m.model.write(x, off, given)
	}
}

func (m *machine) patch() {
	slot := m.slot()
	x, want := m.there(slot)
	n, from, b := int(m.off(x)/256), m.r.below(300)-20, make([]byte, m.r.below(40))
	if all := slices.Sorted(maps.Keys(x.blocks)); len(all) > 0 && m.r.below(6) > 0 {
		n = all[m.r.below(len(all))]
	}
	// bytes behind the Size are none of the thing's, and are tried by a test of their own
	if size := x.inode.Size - int64(n)*256; int64(from+len(b)) > size {
		from = m.r.below(256)
		b = b[:max(min(int64(len(b)), size-int64(from)), 0)]
	}
	for i := range b {
		b[i] = byte(m.r.below(never))
	}
	after := []int64{0, m.f.Last(slot), 0}
	switch {
	case want != api.OK:
	case n < 0 || n >= api.MaxFile:
		want = api.ErrBig
	case x.blocks[n] == nil:
		want = api.ErrNone
	case len(b) == 0 || from < 0 || from+len(b) > 256:
		want = api.ErrSize
	}
	id, e := m.f.Patch(slot, n, from, b, after...)
	if e != want || (id == 0) != (want != api.OK) {
		m.t.Errorf("Patch(%d, %d, %d, %d bytes): %d, %d, not %d", slot, n, from, len(b), id, e, want)
	}
	if want == api.OK {
		copy(x.blocks[n][from:], b)
		for i, v := range b {
			m.wrote(x, int64(n)*256+int64(from+i), v)
		}
	}
}

func (m *machine) resize() {
	slot := m.slot()
	x, want := m.there(slot)
	size := m.off(x)
	if x.inode.Kind == api.Dir && m.r.below(5) > 0 {
		size -= size % 256
	}
	switch {
	case want != api.OK:
	case size < 0:
		want = api.ErrRange
	case size > api.MaxFile*256:
		want = api.ErrBig
	case x.inode.Kind == api.Link || x.inode.Kind == api.Dir && size%256 != 0:
		want = api.ErrArg
	}
	answers(m.t, "Resize", m.f.Resize(slot, size), want)
	if want == api.OK {
		x.resize(size)
	}
}

func (m *machine) drop() {
	slot := m.slot()
	if slot == vol.Root {
		return // a volume without a root is not mounted again
	}
	_, want := m.there(slot)
	after := m.f.Last(slot)
	if m.r.below(2) == 0 {
		after = 0
	}
	answers(m.t, "Drop", m.f.Drop(slot, after), want)
	delete(m.things, slot)
}

// carry moves some block of a thing: one of bytes by its n, or any by its number.
func (m *machine) carry() {
	slot := m.slot()
	x, want := m.there(slot)
	near := m.r.below(m.d.Len()+4) - 2
	owned, _ := m.f.Owned(slot)
	n, b := int(m.off(x)/256), m.r.below(m.d.Len()+4)-2
	if all := slices.Sorted(maps.Keys(x.blocks)); len(all) > 0 && m.r.below(6) > 0 {
		n, b = all[m.r.below(len(all))], owned[m.r.below(len(owned))]
	}
	free, _ := m.a.Free()
	byN := m.r.below(2) == 0
	switch {
	case want != api.OK:
	case byN && (n < 0 || n >= api.MaxFile):
		want = api.ErrBig
	case byN && x.blocks[n] == nil, !byN && !slices.Contains(owned, b):
		want = api.ErrNone
	case free == 0:
		want = api.ErrSpace
	}
	var to int
	var e api.Errno
	if byN {
		b, _ = m.f.Where(slot, n)
		to, e = m.f.Move(slot, n, near)
	} else {
		to, e = m.f.Carry(slot, b, near)
	}
	if e != want || want != api.OK && to != 0 {
		m.t.Errorf("the block %d of slot %d: %d, %d, not %d", b, slot, to, e, want)
		return
	}
	if want != api.OK {
		return
	}
	now, _ := m.f.Owned(slot)
	owned[slices.Index(owned, b)] = to
	slices.Sort(owned)
	if !slices.Equal(now, owned) {
		m.t.Errorf("Owned %v, not %v: %d for %d", now, owned, to, b)
	}
}

func (m *machine) call() {
	switch k := m.r.below(50); {
	case k < 5:
		m.create()
	case k < 8:
		m.links()
	case k < 20:
		m.write()
	case k < 23:
		m.patch()
	case k < 29:
		m.resize()
	case k < 31:
		m.drop()
	case k < 37:
		m.carry()
	case k < 43:
		push.Step(m.v.Store(), m.r.below(20))
	case k < 46:
		m.v.Store().Flush()
	case k < 49:
		m.a.Settle()
	default:
		m.quiet()
	}
}

// quiet makes all safe and free: what is taken then is what is owned.
func (m *machine) quiet() {
	m.t.Helper()
	for range 3 {
		push.All(m.v.Store())
		m.a.Settle()
	}
	blocks, slots := 0, len(m.things)-1 // the root's slot is no slot that is taken
	for _, x := range m.things {
		blocks += len(x.blocks) + len(x.names)
	}
	for k := range m.v.Geo().Groups {
		b, s, _ := m.a.Used(k)
		blocks -= b
		slots -= s
	}
	if blocks != 0 || slots != 0 {
		m.t.Errorf("%d blocks, %d slots more are owned than taken", blocks, slots)
	}
	if m.r.below(2) == 0 {
		m.mount()
	}
}

// holds asks for all that can be asked of a slot.
func (m *machine) holds(slot int, met map[int]int) {
	m.t.Helper()
	x, want := m.there(slot)
	data, e := m.f.Data(slot)
	owned, e2 := m.f.Owned(slot)
	rows, e3 := m.f.Extents(slot)
	if e != want || e2 != want || e3 != want || len(data) != len(x.blocks) || len(owned) != len(x.blocks)+len(x.names) || !slices.IsSorted(owned) {
		m.t.Errorf("slot %d: Data %v, %d, Owned %v, %d: not %d of bytes, %d of names", slot, data, e, owned, e2, len(x.blocks), len(x.names))
	}
	for _, b := range owned {
		met[b]++
		if !m.a.Taken(b) || met[b] > 1 {
			m.t.Errorf("slot %d: the block %d is not taken, or another thing's", slot, b)
		}
	}
	wantRows, ahead, aheadN := 0, -1, -1
	for i, n := range slices.Sorted(maps.Keys(x.blocks)) {
		b, e := m.f.Where(slot, n)
		if i >= len(data) || b != data[i] || !slices.Contains(owned, b) || e != api.OK {
			m.t.Errorf("Where(%d, %d): %d, %d, of %v", slot, n, b, e, data)
		}
		if b != ahead+1 || n != aheadN+1 {
			wantRows++
		}
		ahead, aheadN = b, n
	}
	if rows != wantRows {
		m.t.Errorf("Extents(%d): %d, not %d", slot, rows, wantRows)
	}
	m.reads(slot, x, want)
	changes := m.f.Changes(slot)
	if !slices.IsSorted(changes) || slices.ContainsFunc(changes, m.v.Store().Safe) {
		m.t.Errorf("Changes(%d): %v", slot, changes)
	}
}

// reads holds some bytes of a slot, and all that were written, against the model's.
func (m *machine) reads(slot int, x *thing, want api.Errno) {
	m.t.Helper()
	offs := []int64{m.off(x), max(x.inode.Size-20, 0)}
	for n := range x.blocks {
		offs = append(offs, int64(n)*256)
	}
	for _, off := range offs {
		n, errno := m.r.below(300), want
		b, e := m.f.Read(slot, off, n)
		if off < 0 && want == api.OK {
			errno = api.ErrRange
		}
		if errno != api.OK {
			answers(m.t, "Read", e, errno)
			continue
		}
		if e != api.OK || !bytes.Equal(b, x.read(off, n)) {
			m.t.Errorf("Read(%d, %d, %d): %x, %d, not %x", slot, off, n, b, e, x.read(off, n))
		}
	}
}

// crashed holds a disk behind a crash against P15.7: walked byte by byte, with no layer above those that say what bytes are.
func (m *model) crashed(t *testing.T, d *disk.Disk, g api.Geo) {
	t.Helper()
	met := map[int]int{}
	for slot := range geo.Slots(g) {
		b, place, _ := geo.Place(g, slot)
		table, _ := d.Read(b)
		i, e := inode.Read(table, place)
		if e != api.OK {
			t.Errorf("slot %d: an inode that can not be: %x", slot, table[place*64:place*64+64])
		}
		if i.Kind == api.Free {
			continue
		}
		own := walked(t, d, g, i)
		for _, b := range own.all {
			met[b]++
			if !taken(d, g, b) || met[b] > 1 {
				t.Errorf("slot %d: the block %d is not taken, or named twice", slot, b)
			}
		}
		for n, b := range own.data {
			m.bytesOf(t, d, i, n, b)
		}
	}
}

// bytesOf holds a block of bytes against what was ever written there.
func (m *model) bytesOf(t *testing.T, d *disk.Disk, i api.Inode, n, b int) {
	t.Helper()
	data, _ := d.Read(b)
	for k, v := range data {
		at := int64(n)*256 + int64(k)
		if at < i.Size && v != 0 && m.past[i.Id][at][v] == 0 {
			t.Errorf("the byte %d of %d is %d, that was never written there", at, i.Id, v)
			return
		}
	}
}

// found is what one comes to from an inode on a disk.
type found struct {
	all  []int
	data map[int]int
}

func walked(t *testing.T, d *disk.Disk, g api.Geo, i api.Inode) found {
	t.Helper()
	f := found{data: map[int]int{}}
	var visit func(b, n, deep int)
	visit = func(b, n, deep int) {
		if b == 0 {
			return
		}
		if kind, _ := geo.Kind(g, b); kind != geo.Data {
			t.Errorf("%d names %d, that is no data block", i.Id, b)
			return
		}
		f.all = append(f.all, b)
		if deep == 0 {
			f.data[n] = b
			return
		}
		block, _ := d.Read(b)
		names, _ := ptr.Names(block)
		for k, name := range names {
			visit(name, n+k*[]int{0, 1, 64}[deep], deep-1)
		}
	}
	for k, b := range i.P {
		visit(b, k, 0)
	}
	visit(i.In, 6, 1)
	visit(i.Din, 70, 2)
	return f
}

// taken tells whether a block is so on a disk.
func taken(d *disk.Disk, g api.Geo, b int) bool {
	_, k := geo.Kind(g, b)
	at, _ := geo.Head(g, k)
	block, _ := d.Read(at)
	h, e := group.Get(g, block)
	if e != api.OK {
		return false
	}
	_, e = group.UseBlock(g, h, b-at, true)
	return e == api.ErrState
}

// crash lets the power of a copy of the disk go, with any of its writes there.
func (m *machine) crash() {
	m.t.Helper()
	c := m.d.Copy()
	picks := make([]int, len(c.Open()))
	for i := range picks {
		picks[i] = m.r.below(4)
	}
	c.Crash(picks)
	m.crashed(m.t, c, m.v.Geo())
}

// newMachine is a new volume, of which the model knows the root.
func newMachine(t *testing.T, r *dice, g api.Geo) *machine {
	t.Helper()
	d, _ := disk.Load(bytes.Repeat([]byte{never}, geo.Size(g)*api.Block))
	answers(t, "Format", vol.Format(d, g), api.OK)
	m := &machine{model: newModel(), t: t, r: r, d: d}
	m.mount()
	m.things[vol.Root] = newThing(api.Inode{Kind: api.Dir, Links: 1, Id: 1})
	return m
}

// few makes calls that meet each other: of three files, in blocks at the ends of what blocks of names name, of which as few are written as can be.
func (m *machine) few() {
	slot := 2 + m.r.below(3)
	x := m.things[slot]
	if x == nil {
		m.create()
		return
	}
	ends := []int{0, 5, 6, 7, 69, 70, 71, 133, 134, 198, api.MaxFile - 1}
	n := ends[m.r.below(len(ends))]
	switch k := m.r.below(24); {
	case k < 8:
		b := bytes.Repeat([]byte{byte(1 + m.r.below(never-1))}, 1+m.r.below(300))
		if n == api.MaxFile-1 {
			b = b[:min(len(b), 256)]
		}
		if x.inode.Kind == api.File && m.f.Write(slot, int64(n)*256, b) == api.OK {
			m.model.write(x, int64(n)*256, b)
		}
	case k < 13:
		if owned, _ := m.f.Owned(slot); len(owned) > 0 {
			m.f.Carry(slot, owned[m.r.below(len(owned))], m.r.below(m.d.Len()))
		}
	case k < 16:
		if m.f.Resize(slot, int64(n)*256) == api.OK {
			x.resize(int64(n) * 256)
		}
	case k < 17:
		m.f.Drop(slot, 0)
		delete(m.things, slot)
	case k < 21:
		push.Step(m.v.Store(), m.r.below(20))
	case k < 23:
		m.v.Store().Flush()
		m.a.Settle()
	default:
		if all := m.f.Changes(slot); len(all) > 0 {
			push.One(m.v.Store(), all[m.r.below(len(all))])
			m.a.Settle()
		}
	}
}

// P15.6, P15.7: calls that change what other ones have changed and not made safe yet.
func TestFewThings(t *testing.T) {
	r := dice(88172645)
	for run := range 150 {
		m := newMachine(t, &r, api.Geo{Group: 40 + r.below(60), Inodes: 8, Groups: 1})
		for range 120 {
			m.few()
			m.crash()
			m.crash()
		}
		met := map[int]int{}
		for slot := range 8 {
			m.holds(slot, met)
		}
		m.quiet()
		if t.Failed() {
			t.Fatalf("run %d", run)
		}
	}
}

// P15.1 to P15.7: any calls, one behind the other, with blocks written and flushed between, and the power gone behind each.
func TestAnyCalls(t *testing.T) {
	r := dice(2463534242)
	for run := range 120 {
		g := api.Geo{Group: 24 + r.below(40), Inodes: 8, Groups: 1 + r.below(3)}
		m := newMachine(t, &r, g)
		for range 100 {
			m.call()
			m.crash()
			met := map[int]int{}
			for slot := -1; slot <= geo.Slots(g); slot++ {
				m.holds(slot, met)
			}
			if t.Failed() {
				t.Fatalf("run %d", run)
			}
		}
	}
}
