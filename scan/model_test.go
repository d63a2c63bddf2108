package scan_test

import (
	"encoding/binary"
	"fmt"
	"slices"
	"testing"

	"levee/api"
	"levee/check"
	"levee/dirent"
	"levee/disk"
	"levee/fs"
	"levee/geo"
	"levee/inode"
	"levee/scan"
	"levee/super"
	"levee/sync"
	"levee/vol"
)

// dice gives the same numbers below n in every run.
type dice uint32

func (d *dice) below(n int) int {
	*d ^= *d << 13
	*d ^= *d >> 17
	*d ^= *d << 5
	return int(uint32(*d) % uint32(n))
}

// where is a place of an entry in the bytes of a volume.
type where struct {
	dir int
	at  int
}

// model keeps what can be kept of bytes, by the words of chapter 27, one sentence after another: where they stand. What was met is counted.
type model struct {
	*paper
	things map[int]api.Inode
	kept   []int
	owners map[int]int
	lists  map[int][]where // of each directory that is kept
	stay   []where         // entries that stay
	late   []where
	met    map[string]int
}

// modelled is the model of some bytes with a superblock.
func modelled(p *paper, met map[string]int) *model {
	m := &model{paper: &paper{t: p.t, geo: p.geo, bytes: slices.Clone(p.bytes)}, things: map[int]api.Inode{}, owners: map[int]int{}, lists: map[int][]where{}, met: met}
	for slot := 1; slot < p.geo.Groups*p.geo.Inodes; slot++ {
		if i, e := inode.Get(m.bytesOf(slot)); e == api.OK && i.Kind != api.Free {
			m.things[slot] = i
		}
	}
	if m.things[vol.Root].Kind != api.Dir {
		m.things[vol.Root] = fresh
		met["no root"]++
	}
	m.keep(vol.Root)
	for turn := 0; ; turn++ {
		if turn < len(m.kept) {
			for _, at := range m.lists[m.kept[turn]] {
				m.entry(at)
			}
			continue
		}
		if len(m.late) == 0 {
			break
		}
		m.waited()
		turn--
	}
	for _, slot := range m.kept {
		i := m.things[slot]
		i.Links = m.count(slot)
		if slot == vol.Root {
			i.Links = 1
		}
		m.things[slot] = i
	}
	return m
}

// bytesOf are those of a slot's inode.
func (m *model) bytesOf(slot int) []byte {
	k, n := slot/m.geo.Inodes, slot%m.geo.Inodes
	from := (2+k*m.geo.Group+1)*256 + n*64
	return m.bytes[from : from+64]
}

// keep keeps a thing.
func (m *model) keep(slot int) {
	m.kept = append(m.kept, slot)
	i := m.things[slot]
	for n := range i.P {
		i.P[n] = m.name(slot, n, uint32(i.P[n]))
	}
	if i.In = m.name(slot, 6, uint32(i.In)); i.In != 0 {
		m.names(i.In, func(at int, b uint32) int { return m.name(slot, 6+at, b) })
	}
	if i.Din = m.name(slot, 70, uint32(i.Din)); i.Din != 0 {
		m.names(i.Din, func(at int, b uint32) int {
			sub := m.name(slot, 70+64*at, b)
			if sub != 0 {
				m.names(sub, func(place int, b uint32) int { return m.name(slot, 70+64*at+place, b) })
			}
			return sub
		})
	}
	m.things[slot] = i
	m.content(slot, i)
}

// names makes other names of those in a block.
func (m *model) names(b int, turn func(at int, b uint32) int) {
	for at := range 64 {
		part := m.at(b)[4*at : 4*at+4]
		binary.LittleEndian.PutUint32(part, uint32(turn(at, binary.LittleEndian.Uint32(part))))
	}
}

// name is what becomes of one.
func (m *model) name(slot, n int, b uint32) int {
	i := m.things[slot]
	switch {
	case b == 0:
		return 0
	case int64(n)*256 >= i.Size:
		m.met["behind the end"]++
		return 0
	case int64(b) >= int64(2+m.geo.Groups*m.geo.Group) || b < 2 || (int(b)-2)%m.geo.Group < 1+m.geo.Inodes/4:
		m.met["no data block"]++
		return 0
	case m.owners[int(b)] == slot:
		m.met["named twice"]++
		return 0
	case m.owners[int(b)] != 0:
		m.met["another one's"]++
		return 0
	}
	m.owners[int(b)] = slot
	return int(b)
}

// content goes through the blocks of bytes that a thing has.
func (m *model) content(slot int, i api.Inode) {
	for n := range (i.Size + 255) / 256 {
		b := m.block(i, int(n))
		switch {
		case b == 0:
		case i.Kind == api.Dir:
			for place := range 8 {
				m.lists[slot] = append(m.lists[slot], where{slot, b*256 + 32*place})
			}
		case (n+1)*256 > i.Size:
			tail := m.at(b)[i.Size-n*256:]
			if !slices.Equal(tail, make([]byte, len(tail))) {
				m.met["a tail"]++
			}
			clear(tail)
		}
	}
}

// block is the n-th one of a thing whose names are as they must be.
func (m *model) block(i api.Inode, n int) int {
	if n < 6 {
		return i.P[n]
	}
	if n -= 6; n < 64 {
		if i.In == 0 {
			return 0
		}
		return m.called(i.In, n)
	}
	n -= 64
	if i.Din == 0 || m.called(i.Din, n/64) == 0 {
		return 0
	}
	return m.called(m.called(i.Din, n/64), n%64)
}

// says is the entry of a place; of one that can not be there is none.
func (m *model) says(at where) (api.Entry, bool) {
	e, errno := dirent.Get(m.bytes[at.at : at.at+32])
	return e, errno == api.OK
}

func (m *model) empty(at where, why string) {
	m.met[why]++
	clear(m.bytes[at.at : at.at+32])
}

// entry is a place's turn.
func (m *model) entry(at where) {
	e, can := m.says(at)
	_, thing := m.things[e.Slot]
	switch {
	case !can:
		m.empty(at, "no entry")
	case e.Slot == 0:
	case m.ahead(at, e.Name):
		m.empty(at, "a name ahead")
	case e.Slot < 2:
		m.empty(at, "the root's slot")
	case !thing:
		m.empty(at, "no thing")
	case m.things[e.Slot].Kind == api.Dir && e.Leaving:
		m.late = append(m.late, at)
	default:
		m.rules(at, e)
	}
}

// ahead tells whether a name stands at an earlier place.
func (m *model) ahead(at where, name string) bool {
	for _, other := range m.lists[at.dir] {
		if other == at {
			return false
		}
		if e, _ := m.says(other); e.Slot != 0 && e.Name == name {
			return true
		}
	}
	return false
}

// waited is the turn of the first one that waits.
func (m *model) waited() {
	at := m.late[0]
	m.late = m.late[1:]
	e, _ := m.says(at)
	if slices.Contains(m.kept, e.Slot) {
		m.empty(at, "waited, and was kept")
		return
	}
	m.met["waited"]++
	m.rules(at, e)
}

// rules are the second one, the third one and the last.
func (m *model) rules(at where, e api.Entry) {
	i := m.things[e.Slot]
	if slices.Contains(m.kept, e.Slot) {
		switch {
		case i.Kind == api.Dir:
			m.empty(at, "a directory again")
		case m.count(e.Slot) >= 1000:
			m.empty(at, "too many names")
		default:
			m.stays(at, e, e.Slot, "a name more")
		}
		return
	}
	for _, slot := range m.kept {
		other := m.things[slot]
		if other.Id != i.Id {
			continue
		}
		switch {
		case other.Kind != i.Kind:
			m.empty(at, "a twin of another kind")
		case i.Kind == api.Dir:
			m.empty(at, "a directory's twin")
		case m.count(slot) >= 1000:
			m.empty(at, "a twin with too many names")
		default:
			m.stays(at, e, slot, "a twin")
		}
		return
	}
	m.keep(e.Slot)
	m.stays(at, e, e.Slot, "kept")
}

// stays lets an entry name a slot.
func (m *model) stays(at where, e api.Entry, slot int, why string) {
	m.met[why]++
	if e.Leaving && m.things[slot].Kind != api.Dir {
		m.met["Leaving, and no directory"]++
	}
	b := m.bytes[at.at : at.at+32]
	binary.LittleEndian.PutUint16(b, uint16(slot))
	b[2] = 0
	m.stay = append(m.stay, at)
}

// count is how many entries that stay name a slot.
func (m *model) count(slot int) int {
	n := 0
	for _, at := range m.stay {
		if e, _ := m.says(at); e.Slot == slot {
			n++
		}
	}
	return n
}

// tells holds all that a scan tells against the model.
func (m *model) tells(s *scan.Scan) {
	m.t.Helper()
	w := &want{paper: m.paper, kept: m.kept, owners: m.owners}
	for slot := range s.Geo().Groups * s.Geo().Inodes {
		if i, there := m.things[slot]; there && !slices.Contains(m.kept, slot) {
			w.lost = append(w.lost, slot)
		} else if there {
			w.put(slot, i)
		}
	}
	w.holds("modelled", s)
}

// follows is P27.4: no block is two things', and what is kept is named by what is kept, in blocks that it owns.
func follows(t *testing.T, s *scan.Scan) {
	t.Helper()
	times := map[int]int{vol.Root: 1}
	for b := range geo.Size(s.Geo()) {
		slot := s.Owner(b)
		i, kept := s.Thing(slot)
		if slot != 0 && !kept {
			t.Errorf("the block %d is that of %d, which is not kept", b, slot)
		}
		if i.Kind != api.Dir || names(s, i, b) {
			continue
		}
		list, _, _ := dirent.List(s.Block(b))
		for _, e := range list {
			times[e.Slot]++
		}
	}
	for _, slot := range s.Kept() {
		if i, _ := s.Thing(slot); times[slot] != i.Links || i.Links == 0 {
			t.Errorf("%d is named %d times, not %d", slot, times[slot], i.Links)
		}
	}
}

// names tells whether a block of a thing is one of names.
func names(s *scan.Scan, i api.Inode, b int) bool {
	if b == i.In || b == i.Din {
		return true
	}
	din := s.Block(i.Din)
	for at := 0; at < len(din); at += 4 {
		if int(binary.LittleEndian.Uint32(din[at:])) == b {
			return true
		}
	}
	return false
}

// grown is a volume with a tree that some calls made.
func grown(t *testing.T, r *dice) *disk.Disk {
	t.Helper()
	g := api.Geo{Group: 20 + r.below(30), Inodes: []int{8, 12, 16}[r.below(3)], Groups: 1 + r.below(3)}
	d := formatted(t, geo.Size(g)+r.below(9), g)
	f, e := fs.Mount(d)
	calls(t, e)
	path := func() string {
		text := ""
		for range 1 + r.below(3) {
			text += "/" + string(rune('a'+r.below(5)))
		}
		return text
	}
	for range 90 {
		a, b, fd := path(), path(), r.below(api.MaxOpen)
		switch r.below(9) {
		case 0, 1:
			f.Create(a)
		case 2, 3:
			f.Mkdir(a)
		case 4:
			f.Symlink(b, a)
		case 5:
			f.Link(a, b)
		case 6:
			f.Open(a)
		default:
			f.Write(fd, int64([]int{0, 200, 1500, 17900, 20000}[r.below(5)]+r.below(700)), make([]byte, 1+r.below(900)))
		}
	}
	for fd := range api.MaxOpen {
		f.Close(fd)
	}
	_, e = sync.New(f).Sync()
	calls(t, e)
	return d
}

// shapeOf is that of the volume that was formatted on a disk.
func shapeOf(d *disk.Disk) api.Geo {
	b, _ := d.Read(1)
	s, _ := super.Get(b)
	return s.Geo
}

// slot is one that has a thing, mostly.
func (p *paper) slot(r *dice) int {
	for range 20 {
		slot := r.below(geo.Slots(p.geo))
		b, place, _ := geo.Place(p.geo, slot)
		if i, e := inode.Read(p.at(b), place); e == api.OK && i.Kind != api.Free {
			return slot
		}
	}
	return r.below(geo.Slots(p.geo))
}

// data is a data block.
func (p *paper) data(r *dice) int {
	first, past := geo.Range(p.geo, r.below(p.geo.Groups))
	return first + r.below(past-first)
}

// list is a block of some directory.
func (p *paper) list(r *dice) int {
	for range 40 {
		slot := p.slot(r)
		b, place, _ := geo.Place(p.geo, slot)
		i, e := inode.Read(p.at(b), place)
		if kind, _ := geo.Kind(p.geo, i.P[0]); e == api.OK && i.Kind == api.Dir && kind == geo.Data {
			return i.P[0]
		}
	}
	return p.data(r)
}

// field is where an inode has a name: of P, and behind them of In and Din.
func field(i *api.Inode, at int) *int {
	switch at {
	case api.Direct:
		return &i.In
	case api.Direct + 1:
		return &i.Din
	}
	return &i.P[at]
}

// spoiled writes over something, mostly by what can be.
func (p *paper) spoiled(r *dice) {
	switch r.below(12) {
	case 0:
		p.bytes[256*2+r.below(len(p.bytes)-256*2)] = byte(r.below(256))
	case 1:
		p.at(p.data(r))[r.below(256)] ^= 1 << r.below(8)
	case 2, 3:
		p.spoiledInode(r)
	case 4:
		p.twin(r)
	case 5, 6, 7:
		p.spoiledEntry(r)
	case 8, 9:
		p.more(r)
	case 10:
		b, place, _ := geo.Place(p.geo, p.slot(r))
		i, e := inode.Read(p.at(b), place)
		if kind, _ := geo.Kind(p.geo, i.In); e == api.OK && kind == geo.Data {
			p.call(i.In, r.below(64), uint32(r.below(2)<<r.below(32)|p.data(r)))
		}
	default:
		copy(p.at(p.data(r)), p.at(p.data(r)))
	}
}

// spoiledInode makes another inode of some thing's.
func (p *paper) spoiledInode(r *dice) {
	b, place, _ := geo.Place(p.geo, p.slot(r))
	i, e := inode.Read(p.at(b), place)
	if e != api.OK {
		return
	}
	switch r.below(7) {
	case 0:
		i.Links = r.below(5)
	case 1:
		i.Size = max(i.Size+int64(r.below(3)-1)*int64(1+r.below(300)), 0)
	case 2:
		i.Size = int64(r.below(api.MaxFile * api.Block))
	case 3:
		*field(&i, r.below(8)) = r.below(geo.Size(p.geo) + 9)
	case 4:
		*field(&i, r.below(8)) = p.data(r)
	case 5:
		i.Kind = r.below(4)
	default:
		i.Id = int64(1 + r.below(9))
	}
	if i.Kind == api.Dir {
		i.Size = i.Size / 256 * 256
	}
	if whole, e := inode.Lay(p.at(b), place, i); e == api.OK {
		copy(p.at(b), whole)
	}
}

// twin lets a thing stand in another slot, too.
func (p *paper) twin(r *dice) {
	from, fromPlace, _ := geo.Place(p.geo, p.slot(r))
	to, place, _ := geo.Place(p.geo, r.below(geo.Slots(p.geo)))
	copy(p.at(to)[64*place:64*place+64], p.at(from)[64*fromPlace:64*fromPlace+64])
}

// spoiledEntry makes another entry of one.
func (p *paper) spoiledEntry(r *dice) {
	b, place := p.list(r), r.below(api.PerDir)
	e, errno := dirent.Read(p.at(b), place)
	if errno != api.OK || e.Slot == 0 {
		return
	}
	switch r.below(6) {
	case 0:
		e = api.Entry{}
	case 1:
		e.Slot = p.slot(r)
	case 2:
		e.Slot = 1 + r.below(geo.Slots(p.geo)+3)
	case 3, 4:
		e.Leaving = !e.Leaving
	default:
		e.Name = string(rune('a' + r.below(5)))
	}
	if whole, errno := dirent.Lay(p.at(b), place, e); errno == api.OK {
		copy(p.at(b), whole)
	}
}

// more adds an entry.
func (p *paper) more(r *dice) {
	b := p.list(r)
	e := api.Entry{Slot: p.slot(r), Leaving: r.below(2) == 0, Name: string(rune('a' + r.below(9)))}
	if place := dirent.Room(p.at(b)); place >= 0 && e.Slot > 0 {
		p.entry(b, place, e)
	}
}

// P27.1, P27.2, P27.4: whatever is written over, what is kept is what the words say, each of which is met.
func TestSpoiled(t *testing.T) {
	r := dice(1618033988)
	met := map[string]int{}
	for run := range 120 {
		d := grown(t, &r)
		g := shapeOf(d)
		for n := range 60 {
			p := paperOf(t, d, g)
			for range 1 + r.below(1+n) {
				p.spoiled(&r)
			}
			c := p.disk()
			s := read(t, "spoiled", c)
			modelled(p, met).tells(s)
			follows(t, s)
			if _, e := check.Whole(c); e == api.OK {
				met["whole"]++
				alike(t, p, s)
			}
			if t.Failed() {
				t.Fatal(run, n)
			}
		}
	}
	for _, what := range []string{"no root", "behind the end", "no data block", "named twice", "another one's", "a tail", "no entry", "a name ahead", "the root's slot", "no thing", "waited", "waited, and was kept", "a directory again", "a name more", "a twin", "a twin of another kind", "a directory's twin", "kept", "Leaving, and no directory", "whole"} {
		if met[what] < 20 {
			t.Errorf("%s: %d times", what, met[what])
		}
	}
}

// alike is P27.3: all of a volume that is whole is kept as it is.
func alike(t *testing.T, p *paper, s *scan.Scan) {
	t.Helper()
	if len(s.Lost()) != 0 {
		t.Errorf("lost are %v", s.Lost())
	}
	kept := 0
	for slot := range geo.Slots(p.geo) {
		i, ok := s.Thing(slot)
		if was := p.thing(slot); i != was || ok != (was.Kind != api.Free) {
			t.Errorf("the slot %d has %v, not %v", slot, i, was)
		}
		if ok {
			kept++
		}
	}
	if kept != len(s.Kept()) {
		t.Errorf("kept are %v, of %d", s.Kept(), kept)
	}
	for b := range geo.Size(p.geo) {
		if s.Owner(b) != 0 && string(s.Block(b)) != string(p.at(b)) {
			t.Errorf("the block %d is another one", b)
		}
	}
}

// P27.3: a volume on which all is safe.
func TestAlike(t *testing.T) {
	r := dice(271828182)
	for range 60 {
		d := grown(t, &r)
		_, e := check.Whole(d)
		answers(t, "Whole", e, api.OK)
		alike(t, paperOf(t, d, shapeOf(d)), read(t, "grown", d))
	}
}

// P27.2, P4: whatever bytes stand behind a superblock, of volumes of all sizes, it ends, and tells what the words say.
func TestAnyBytes(t *testing.T) {
	r := dice(1414213562)
	met := map[string]int{}
	for run := range 150 {
		g := api.Geo{Group: 16 + r.below(112), Inodes: 4 * (1 + r.below(3)), Groups: 1 + r.below(16)}
		p := paperOf(t, formatted(t, geo.Size(g)+r.below(9), g), g)
		for range []int{1, 3, 20, 200}[r.below(4)] {
			b := 2 + r.below(len(p.bytes)/api.Block-2)
			for at := range api.Block {
				p.at(b)[at] = byte(r.below([]int{2, 256}[b%2]))
			}
		}
		s := read(t, "any bytes", p.disk())
		modelled(p, met).tells(s)
		follows(t, s)
		if t.Failed() {
			t.Fatal(run)
		}
	}
}

// inodes fills all slots of a volume with things that can be, with any names, whose blocks are full of entries, or of names.
func inodes(p *paper, r *dice) {
	for slot := 1; slot < geo.Slots(p.geo); slot++ {
		i := api.Inode{Kind: 1 + r.below(3), Links: r.below(9), Size: 255, Id: int64(1 + r.below(200))}
		if slot == vol.Root || r.below(2) == 0 {
			i.Kind = api.Dir
		}
		if i.Kind != api.Link {
			i.Size = int64(r.below(api.MaxFile+1)) * api.Block
		}
		for at := range 8 {
			*field(&i, at) = p.data(r)
		}
		p.put(slot, i)
	}
	for b := range geo.Size(p.geo) {
		if kind, _ := geo.Kind(p.geo, b); kind != geo.Data {
			continue
		}
		if r.below(3) == 0 {
			for at := range 64 {
				p.call(b, at, uint32(p.data(r)))
			}
			continue
		}
		for place := range api.PerDir {
			p.entry(b, place, api.Entry{Slot: 1 + r.below(min(geo.Slots(p.geo), 1023)), Leaving: r.below(3) == 0, Name: fmt.Sprint(r.below(30))})
		}
	}
}

// P27.2, P27.4: volumes, at the least and at the greatest shape too, whose slots and blocks are all full of things that can be.
func TestFull(t *testing.T) {
	r := dice(577215664)
	met := map[string]int{}
	for _, g := range []api.Geo{{Group: 16, Inodes: 4, Groups: 1}, {Group: 16, Inodes: 44, Groups: 1}, {Group: 21, Inodes: 64, Groups: 2}, {Group: 128, Inodes: 64, Groups: 16}, {Group: 128, Inodes: 4, Groups: 16}, {Group: 24, Inodes: 8, Groups: 3}} {
		for range 6 {
			p := paperOf(t, formatted(t, geo.Size(g), g), g)
			inodes(p, &r)
			s := read(t, fmt.Sprint(g), p.disk())
			modelled(p, met).tells(s)
			follows(t, s)
			if t.Failed() {
				t.Fatal(g)
			}
		}
	}
}

// P27.2, P6: directories that all wait, each with entries of all others that wait, and things that name each other's blocks in all their names: it ends at once.
func TestMostSteps(t *testing.T) {
	g := api.Geo{Group: 128, Inodes: 64, Groups: 16}
	p := paperOf(t, formatted(t, geo.Size(g), g), g)
	next := 2
	for slot := 1; slot < geo.Slots(g); slot++ {
		first, past := geo.Range(g, geo.Of(g, slot))
		i := api.Inode{Kind: api.Dir, Links: 1, Size: api.Block, Id: int64(slot), P: [api.Direct]int{first + slot%64}}
		if first+slot%64 >= past {
			t.Fatal("no block")
		}
		p.put(slot, i)
		for place := range api.PerDir {
			p.entry(i.P[0], place, api.Entry{Slot: 2 + (next-2)%1022, Leaving: true, Name: fmt.Sprint(place)})
			if next++; place == 0 && slot > 1 {
				p.entry(i.P[0], place, api.Entry{Slot: min(slot+1, 1023), Leaving: true, Name: fmt.Sprint(place)})
			}
		}
	}
	s := read(t, "all wait", p.disk())
	if n := len(s.Kept()); n != 1023 {
		t.Errorf("%d are kept", n)
	}
	modelled(p, map[string]int{}).tells(s)
	p = paperOf(t, formatted(t, geo.Size(g), g), g)
	one, _ := geo.Range(g, 0)
	for at := range 64 {
		p.call(one, at, uint32(one))
	}
	p.put(vol.Root, api.Inode{Kind: api.Dir, Links: 1, Size: api.MaxFile * api.Block, Id: 1, Din: one, In: one, P: [api.Direct]int{one, one, one, one, one, one}})
	for slot := 2; slot < geo.Slots(g); slot++ {
		p.put(slot, api.Inode{Kind: api.Dir, Links: 1, Size: api.MaxFile * api.Block, Id: int64(slot), Din: one})
	}
	s = read(t, "one block", p.disk())
	modelled(p, map[string]int{}).tells(s)
}
