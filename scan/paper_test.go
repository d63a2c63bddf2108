package scan_test

import (
	"bytes"
	"encoding/binary"
	"fmt"
	"maps"
	"slices"
	"strings"
	"testing"

	"levee/alloc"
	"levee/api"
	"levee/dirent"
	"levee/disk"
	"levee/file"
	"levee/fs"
	"levee/geo"
	"levee/inode"
	"levee/scan"
	"levee/sync"
	"levee/vol"
)

// shape is that of most volumes here: a group has 24 blocks, of which 3 are no data, and 8 slots.
var shape = api.Geo{Group: 24, Inodes: 8, Groups: 3}

// block is the n-th data block of a group.
func block(k, n int) int { return 2 + 24*k + 3 + n }

// spare are data blocks of the last group, that nothing has.
var spare = []int{block(2, 18), block(2, 19), block(2, 20)}

// free are slots of the last group, that have no thing.
var free = []int{20, 21, 22, 23}

func answers(t *testing.T, what string, got, want api.Errno) {
	t.Helper()
	if got != want {
		t.Errorf("%s: %d, not %d", what, got, want)
	}
}

func calls(t *testing.T, all ...api.Errno) {
	t.Helper()
	for i, e := range all {
		if e != api.OK {
			t.Fatal("call", i, e)
		}
	}
}

// formatted is a disk of so many blocks, that were all written over, with a new volume.
func formatted(t *testing.T, blocks int, g api.Geo) *disk.Disk {
	t.Helper()
	d, _ := disk.Load(bytes.Repeat([]byte{0xee}, blocks*api.Block))
	answers(t, "Format", vol.Format(d, g), api.OK)
	return d
}

// things are the slots of what stands on the volume of planted.
type things struct {
	a, b, c, f, deep, l, empty int
}

// planted is a volume with a tree, all safe: in the root a, f, b, deep and l; in a that file f, empty and seven names more of empty, in b the directory c. deep has a block by the inode, one by In, three by Din, in two blocks of names.
func planted(t *testing.T) (*disk.Disk, things) {
	t.Helper()
	d := formatted(t, geo.Size(shape)+5, shape)
	f, e := fs.Mount(d)
	calls(t, e, f.Mkdir("/a"), f.Create("/a/f"), f.Create("/a/empty"), f.Link("/a/f", "/f"), f.Mkdir("/b"), f.Mkdir("/b/c"), f.Create("/deep"), f.Symlink("a/f", "/l"))
	for n := range 7 {
		calls(t, f.Link("/a/empty", fmt.Sprint("/a/", n)))
	}
	for fd, path := range []string{"/f", "/deep"} {
		if n, e := f.Open(path); n != fd || e != api.OK {
			t.Fatal("Open", n, e)
		}
	}
	calls(t, f.Write(0, 0, []byte(strings.Repeat("f", 300))))
	for _, n := range []int64{1, 8, 70, 71, 199} {
		calls(t, f.Write(1, n*api.Block+9, []byte("deep")))
	}
	_, e = sync.New(f).Sync()
	calls(t, e)
	slot := func(path string) int {
		way, e := f.Nodes().Tree().Walk(path, false)
		calls(t, e)
		return way[len(way)-1]
	}
	return d, things{a: slot("/a"), b: slot("/b"), c: slot("/b/c"), f: slot("/f"), deep: slot("/deep"), l: slot("/l"), empty: slot("/a/empty")}
}

// paper is a disk whose bytes are written over.
type paper struct {
	t     *testing.T
	bytes []byte
	geo   api.Geo
}

func paperOf(t *testing.T, d *disk.Disk, g api.Geo) *paper {
	return &paper{t: t, bytes: d.Bytes(), geo: g}
}

func (p *paper) disk() *disk.Disk {
	p.t.Helper()
	d, e := disk.Load(p.bytes)
	calls(p.t, e)
	return d
}

// at are a block's bytes, where they stand.
func (p *paper) at(b int) []byte { return p.bytes[b*api.Block : (b+1)*api.Block] }

func (p *paper) thing(slot int) api.Inode {
	p.t.Helper()
	b, place, e := geo.Place(p.geo, slot)
	calls(p.t, e)
	i, e := inode.Read(p.at(b), place)
	calls(p.t, e)
	return i
}

// inode makes another inode of one.
func (p *paper) inode(slot int, turn func(i *api.Inode)) {
	p.t.Helper()
	i := p.thing(slot)
	turn(&i)
	p.put(slot, i)
}

// put gives a slot an inode.
func (p *paper) put(slot int, i api.Inode) {
	p.t.Helper()
	b, place, e := geo.Place(p.geo, slot)
	calls(p.t, e)
	whole, e := inode.Lay(p.at(b), place, i)
	calls(p.t, e)
	copy(p.at(b), whole)
}

// spoil lets the bytes of a slot be no inode.
func (p *paper) spoil(slot int) {
	p.t.Helper()
	b, place, e := geo.Place(p.geo, slot)
	calls(p.t, e)
	p.at(b)[(place+1)*api.InodeSize-1]++
}

// entry lays an entry at a place of a block.
func (p *paper) entry(b, place int, e api.Entry) {
	p.t.Helper()
	whole, errno := dirent.Lay(p.at(b), place, e)
	calls(p.t, errno)
	copy(p.at(b), whole)
}

// place is where a name stands in a directory's blocks that its inode names.
func (p *paper) place(dir int, name string) (int, int) {
	p.t.Helper()
	for _, b := range p.thing(dir).P {
		if at := dirent.Find(p.at(b), name); b != 0 && at >= 0 {
			return b, at
		}
	}
	p.t.Fatal("no", name)
	return 0, 0
}

// turn makes another entry of a name's.
func (p *paper) turn(dir int, name string, turn func(e *api.Entry)) {
	p.t.Helper()
	b, at := p.place(dir, name)
	e, _ := dirent.Read(p.at(b), at)
	turn(&e)
	p.entry(b, at, e)
}

// add adds an entry in the first block of a directory in which there is room, and answers where.
func (p *paper) add(dir int, e api.Entry) (int, int) {
	p.t.Helper()
	for _, b := range p.thing(dir).P {
		if at := dirent.Room(p.at(b)); b != 0 && at >= 0 {
			p.entry(b, at, e)
			return b, at
		}
	}
	p.t.Fatal("no room")
	return 0, 0
}

// fill gives a directory without blocks one, that has these entries.
func (p *paper) fill(dir, b int, all ...api.Entry) {
	p.t.Helper()
	clear(p.at(b))
	for place, e := range all {
		p.entry(b, place, e)
	}
	p.inode(dir, func(i *api.Inode) { i.Size, i.P[0] = api.Block, b })
}

// call gives a block a name at a place of a block of names.
func (p *paper) call(names, at int, name uint32) {
	binary.LittleEndian.PutUint32(p.at(names)[4*at:], name)
}

func (p *paper) called(names, at int) int {
	return int(binary.LittleEndian.Uint32(p.at(names)[4*at:]))
}

// want is what is to be kept.
type want struct {
	*paper // how all that is kept must be: only that of it counts
	kept   []int
	lost   []int
	owners map[int]int
}

// wanted is the volume of planted, all of which is kept.
func wanted(t *testing.T, d *disk.Disk, x things) *want {
	t.Helper()
	v, e := vol.Mount(d)
	calls(t, e)
	w := &want{paper: paperOf(t, d, shape), kept: []int{vol.Root, x.a, x.f, x.b, x.deep, x.l, x.empty, x.c}}
	w.owners = owned(t, v, w.kept)
	return w
}

// owned are all blocks that things own, with their slots.
func owned(t *testing.T, v *vol.Vol, slots []int) map[int]int {
	t.Helper()
	owners := map[int]int{}
	for _, slot := range slots {
		all, e := filesOf(v).Owned(slot)
		calls(t, e)
		for _, b := range all {
			owners[b] = slot
		}
	}
	return owners
}

// loses lets things be lost.
func (w *want) loses(slots ...int) {
	w.kept = slices.DeleteFunc(w.kept, func(slot int) bool { return slices.Contains(slots, slot) })
	w.lost = append(w.lost, slots...)
	slices.Sort(w.lost)
	maps.DeleteFunc(w.owners, func(_, slot int) bool { return slices.Contains(slots, slot) })
}

// links lets a thing have so many names.
func (w *want) links(slot, n int) {
	w.inode(slot, func(i *api.Inode) { i.Links = n })
}

// disown lets blocks be nothing's.
func (w *want) disown(blocks ...int) {
	for _, b := range blocks {
		delete(w.owners, b)
	}
}

// holds holds all that a scan tells.
func (w *want) holds(what string, s *scan.Scan) {
	w.t.Helper()
	if s.Geo() != w.geo {
		w.t.Errorf("%s: the shape is %v", what, s.Geo())
	}
	if got := s.Kept(); !slices.Equal(got, w.kept) {
		w.t.Errorf("%s: kept are %v, not %v", what, got, w.kept)
	}
	if got := s.Lost(); !slices.Equal(got, w.lost) {
		w.t.Errorf("%s: lost are %v, not %v", what, got, w.lost)
	}
	for slot := -1; slot <= geo.Slots(w.geo); slot++ {
		var must api.Inode
		kept := slices.Contains(w.kept, slot)
		if kept {
			must = w.thing(slot)
		}
		if got, ok := s.Thing(slot); got != must || ok != kept {
			w.t.Errorf("%s: the slot %d has %+v, %t, not %+v", what, slot, got, ok, must)
		}
	}
	for b := -1; b < len(w.bytes)/api.Block+1; b++ {
		var must []byte
		if w.owners[b] != 0 {
			must = w.at(b)
		}
		if got := s.Owner(b); got != w.owners[b] {
			w.t.Errorf("%s: the block %d is that of %d, not of %d", what, b, got, w.owners[b])
		}
		if got := s.Block(b); !bytes.Equal(got, must) || (len(got) == 0) != (must == nil) {
			w.t.Errorf("%s: the block %d must be\n%x, not\n%x", what, b, got, must)
		}
	}
}

// state is all that a disk tells.
func state(d *disk.Disk) string {
	var b strings.Builder
	fmt.Fprint(&b, d.Open(), d.Stopped())
	for at := range d.Len() {
		safe, _ := d.Safe(at)
		fmt.Fprintf(&b, " %d %x", d.Writes(at), safe)
	}
	return b.String() + string(d.Bytes())
}

// read is a scan, that changes nothing on the disk, and has no more steps than there may be.
func read(t *testing.T, what string, d *disk.Disk) *scan.Scan {
	t.Helper()
	was := state(d)
	s, e := scan.Read(d)
	answers(t, what, e, api.OK)
	if state(d) != was {
		t.Errorf("%s: something was changed", what)
	}
	if n, most := s.Steps(), 200*geo.Size(s.Geo()); n < geo.Slots(s.Geo())-1 || n > most {
		t.Errorf("%s: %d steps, of %d", what, n, most)
	}
	return s
}

// edge writes over the volume of planted, and says what is to be kept of that otherwise than all as it stands there then.
type edge struct {
	name string
	edit func(p *paper, x things)
	want func(w *want, x things)
}

// edges holds all that is told of each edge.
func edges(t *testing.T, all ...edge) {
	t.Helper()
	d, x := planted(t)
	for _, c := range all {
		p := paperOf(t, d, shape)
		c.edit(p, x)
		if bytes.Equal(p.bytes, d.Bytes()) {
			t.Errorf("%s: nothing was written over", c.name)
		}
		w := wanted(t, d, x)
		w.bytes = slices.Clone(p.bytes)
		if c.want != nil {
			c.want(w, x)
		}
		w.holds(c.name, read(t, c.name, p.disk()))
	}
}

func filesOf(v *vol.Vol) *file.Files { return file.New(alloc.New(v)) }
