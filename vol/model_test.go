package vol_test

import (
	"slices"
	"testing"

	"levee/api"
	"levee/disk"
	"levee/geo"
	"levee/group"
	"levee/push"
	"levee/vol"
)

// dice gives the same numbers below n in every run.
type dice uint32

func (d *dice) below(n int) int {
	*d ^= *d << 13
	*d ^= *d >> 17
	*d ^= *d << 5
	return int(uint32(*d) % uint32(n))
}

// model is a volume by the chapter's words: lists of its parts, also of groups that it does not have now.
type model struct {
	g      api.Geo
	gen    int64
	next   int64
	count  int64 // of changes
	blocks int
	inodes [32]api.Inode
	heads  [4]group.Head
	data   [70][api.Block]byte
}

func newModel(blocks int) *model {
	m := &model{g: example, gen: 1, next: 2, blocks: blocks}
	m.inodes[vol.Root] = root
	for k := range m.heads {
		m.heads[k], _ = group.Fresh(groups(4), k)
	}
	return m
}

// after is up to three numbers of changes, of which one may be none's: then the errno is ErrArg.
func (m *model) after(r *dice) ([]int64, api.Errno) {
	var after []int64
	errno := api.OK
	for range r.below(4) {
		id := int64(r.below(int(m.count) + 1))
		if id == 0 && r.below(3) > 0 {
			continue
		}
		if id == 0 {
			errno = api.ErrArg
		}
		after = append(after, id)
	}
	return after, errno
}

// changed holds what a call answered against what it must, and tells whether it made a change.
func (m *model) changed(t *testing.T, what string, id int64, e, want api.Errno) bool {
	t.Helper()
	if want != api.OK {
		refused(t, what, id, e, want)
		return false
	}
	m.count++
	numbered(t, what, id, e, m.count)
	return true
}

func (m *model) setInode(t *testing.T, v *vol.Vol, r *dice) {
	t.Helper()
	slot := r.below(m.g.Groups*8+2) - 1
	i := api.Inode{Kind: r.below(5), Links: r.below(1002), Size: int64(r.below(3) * 256), Id: int64(r.below(50)), In: r.below(34)}
	if r.below(6) == 0 {
		i = api.Inode{}
	}
	after, want := m.after(r)
	if i != (api.Inode{}) && (i.Kind == 0 || i.Kind == 4 || i.Links > 1000 || i.Id == 0 || i.Kind == api.Link && (i.Size == 0 || i.Size > 255)) {
		want = api.ErrArg
	}
	if slot < 0 || slot >= m.g.Groups*8 {
		want = api.ErrRange
	}
	id, e := v.SetInode(slot, i, after...)
	if m.changed(t, "SetInode", id, e, want) {
		m.inodes[slot] = i
	}
}

func (m *model) setHead(t *testing.T, v *vol.Vol, r *dice) {
	t.Helper()
	k := r.below(m.g.Groups+2) - 1
	after, want := m.after(r)
	from := r.below(4)
	h, e := group.UseBlock(groups(4), m.heads[from], 3+r.below(13), r.below(2) == 0)
	if e != api.OK {
		h = m.heads[from]
	}
	if h.No != k {
		want = api.ErrArg
	}
	if k < 0 || k >= m.g.Groups {
		want = api.ErrRange
	}
	id, e := v.SetHead(k, h, after...)
	if m.changed(t, "SetHead", id, e, want) {
		m.heads[k] = h
	}
}

func (m *model) setData(t *testing.T, v *vol.Vol, r *dice) {
	t.Helper()
	b, from, data := r.below(m.blocks+2)-1, r.below(258)-1, make([]byte, r.below(5))
	for i := range data {
		data[i] = byte(1 + r.below(255))
	}
	after, want := m.after(r)
	if len(data) == 0 || from < 0 || from+len(data) > api.Block {
		want = api.ErrSize
	}
	if kind, _ := geo.Kind(m.g, b); kind != geo.Data {
		want = api.ErrRange
	}
	id, e := v.SetData(b, from, data, after...)
	if m.changed(t, "SetData", id, e, want) {
		copy(m.data[b][from:], data)
	}
}

func (m *model) newId(t *testing.T, v *vol.Vol) {
	t.Helper()
	id, e := v.NewId()
	numbered(t, "NewId", id, e, m.next)
	m.next++
}

func (m *model) prepare(t *testing.T, v *vol.Vol, n int) {
	t.Helper()
	want := api.OK
	switch {
	case n < m.g.Groups:
		want = api.ErrArg
	case 2+16*n > m.blocks:
		want = api.ErrSize
	}
	answers(t, "Prepare", v.Prepare(groups(n)), want)
	if want != api.OK {
		return
	}
	for k := m.g.Groups; k < n; k++ {
		m.count += 3
		m.heads[k], _ = group.Fresh(groups(n), k)
		clear(m.inodes[8*k : 8*k+8])
	}
	if v.Store().Open() != 0 {
		t.Error("open behind Prepare", v.Store().Open())
	}
}

func (m *model) turn(t *testing.T, v *vol.Vol, n int) {
	t.Helper()
	want := api.OK
	if n < 1 {
		want = api.ErrArg
	} else if 2+16*n > m.blocks {
		want = api.ErrSize
	}
	answers(t, "Switch", v.Switch(groups(n)), want)
	if want == api.OK {
		m.count++
		m.gen++
		m.g = groups(n)
	}
}

// holds reads all parts, and those that are not there.
func (m *model) holds(t *testing.T, v *vol.Vol) {
	t.Helper()
	if v.Geo() != m.g || v.Gen() != m.gen {
		t.Errorf("%v, %d, not %v, %d", v.Geo(), v.Gen(), m.g, m.gen)
	}
	for slot, want := range m.inodes {
		errno := api.OK
		if slot >= m.g.Groups*8 {
			want, errno = api.Inode{}, api.ErrRange
		}
		if i, e := v.Inode(slot); i != want || e != errno {
			t.Errorf("Inode(%d): %v, %d, not %v", slot, i, e, want)
		}
	}
	for k, want := range m.heads {
		errno := api.OK
		if k >= m.g.Groups {
			want, errno = group.Head{}, api.ErrRange
		}
		if h, e := v.Head(k); h != want || e != errno {
			t.Errorf("Head(%d): %v, %d, not %v", k, h, e, want)
		}
	}
	for b := range m.data {
		want, errno := m.data[b][:], api.OK
		if kind, _ := geo.Kind(m.g, b); kind != geo.Data {
			want, errno = nil, api.ErrRange
		}
		if data, e := v.Data(b); !slices.Equal(data, want) || e != errno {
			t.Errorf("Data(%d): %x, %d, not %x", b, data, e, want)
		}
	}
}

// again mounts what stands on the disk, with all made safe: a store without changes, and numbers behind the greatest.
func (m *model) again(t *testing.T, v *vol.Vol, d *disk.Disk) *vol.Vol {
	t.Helper()
	push.All(v.Store())
	d.Crash(nil)
	w, e := vol.Mount(d)
	if i := m.inodes[vol.Root]; i.Kind != api.Dir {
		if w != nil || e != api.ErrForm {
			t.Error("Mount without a root", w, e)
		}
		return v
	}
	if e != api.OK {
		t.Fatal("Mount", e)
	}
	m.count, m.next = 0, 0
	for _, i := range m.inodes[:8*m.g.Groups] {
		m.next = max(m.next, i.Id+1)
	}
	return w
}

// P13.3 to P13.6: any calls, one behind the other, and blocks that are written and flushed between.
func TestAnyCalls(t *testing.T) {
	r := dice(2463534242)
	for run := range 400 {
		m := newModel(34 + r.below(33))
		d := formatted(t, m.blocks, groups(2))
		v := mounted(t, d)
		if n := (m.blocks - 2) / 16; n > 2 {
			m.prepare(t, v, n) // so that groups that come by Switch alone can be read
		}
		for range 60 {
			switch k := r.below(32); {
			case k < 8:
				m.setInode(t, v, &r)
			case k < 14:
				m.setHead(t, v, &r)
			case k < 20:
				m.setData(t, v, &r)
			case k < 22:
				m.newId(t, v)
			case k < 23:
				m.prepare(t, v, r.below(6))
			case k < 24:
				m.turn(t, v, r.below(6))
			case k < 29:
				push.Step(v.Store(), r.below(20))
			case k < 31:
				v.Store().Flush()
			default:
				v = m.again(t, v, d)
			}
			m.holds(t, v)
		}
		if t.Failed() {
			t.Fatalf("run %d", run)
		}
	}
}
