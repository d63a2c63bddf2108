package vol_test

import (
	"bytes"
	"math"
	"testing"

	"levee/api"
	"levee/geo"
	"levee/group"
	"levee/patch"
	"levee/push"
	"levee/vol"
)

// far are numbers that no group, slot or block has.
var far = []int{math.MinInt, math.MinInt + 1, -4096, -34, -16, -2, -1, 4096, 65536, math.MaxInt - 1, math.MaxInt}

// unknown are numbers that are no change's, if there are fewer than 90.
var unknown = []int64{math.MinInt64, -1, 0, 90, 4096, math.MaxInt64}

// numbered holds a change's number and no error against a wanted one.
func numbered(t *testing.T, what string, got int64, e api.Errno, want int64) {
	t.Helper()
	if got != want || e != api.OK {
		t.Errorf("%s: %d, %d, not %d", what, got, e, want)
	}
}

// refused holds a change that must not be taken against its error.
func refused(t *testing.T, what string, got int64, e, want api.Errno) {
	t.Helper()
	if got != 0 || e != want {
		t.Errorf("%s: %d, %d, not %d", what, got, e, want)
	}
}

// untouched tells whether a store has so many changes, all open, and no more.
func untouched(t *testing.T, s *patch.Store, changes int64) {
	t.Helper()
	if s.Open() != int(changes) || s.Safe(changes+1) {
		t.Error("a refused call made a change", s.Open())
	}
	if changes == 0 && len(s.Dirty()) != 0 {
		t.Error("a refused call made a change", s.Dirty())
	}
}

// P13.1 to P13.4: of nil, and of one that was not mounted.
func TestNoVolume(t *testing.T) {
	if vol.Root != 1 {
		t.Error("Root", vol.Root)
	}
	for _, v := range []*vol.Vol{nil, new(vol.Vol)} {
		if v.Geo() != (api.Geo{}) || v.Gen() != 0 || v.Store() != nil || v.Work() != nil {
			t.Error("of nil", v.Geo(), v.Gen(), v.Store(), v.Work())
		}
		id, e := v.NewId()
		refused(t, "NewId", id, e, api.ErrNil)
		for _, n := range append(far, 0, 1, 5, 17) {
			if i, e := v.Inode(n); i != (api.Inode{}) || e != api.ErrNil {
				t.Error("Inode", i, e)
			}
			if h, e := v.Head(n); h != (group.Head{}) || e != api.ErrNil {
				t.Error("Head", h, e)
			}
			if b, e := v.Data(n); b != nil || e != api.ErrNil {
				t.Error("Data", b, e)
			}
			id, e := v.SetInode(n, root)
			refused(t, "SetInode", id, e, api.ErrNil)
			id, e = v.SetInode(n, api.Inode{Kind: 9}, unknown...)
			refused(t, "SetInode", id, e, api.ErrNil)
			id, e = v.SetHead(n, group.Head{}, 1)
			refused(t, "SetHead", id, e, api.ErrNil)
			id, e = v.SetData(n, 0, nil)
			refused(t, "SetData", id, e, api.ErrNil)
		}
		for _, g := range append(wrong, shapes...) {
			answers(t, "Prepare", v.Prepare(g), api.ErrNil)
			answers(t, "Switch", v.Switch(g), api.ErrNil)
		}
	}
}

// P13.3: a change of the inode's 64 bytes at its place, and no other.
func TestSetInode(t *testing.T) {
	for _, g := range shapes {
		d := formatted(t, geo.Size(g), g)
		v := mounted(t, d)
		for slot := range geo.Slots(g) {
			i := api.Inode{Kind: api.File, Links: 1 + slot%1000, Size: int64(slot) * 100, Id: int64(slot + 1), P: [api.Direct]int{slot, 1, 4095}, In: 7, Din: slot}
			b, place, _ := geo.Place(g, slot)
			before, _ := v.Store().Read(b)
			id, e := v.SetInode(slot, i)
			numbered(t, "SetInode", id, e, int64(slot+1))
			if got, e := v.Inode(slot); got != i || e != api.OK {
				t.Errorf("Inode(%d): %v, %d", slot, got, e)
			}
			if at, _ := v.Store().Block(id); at != b {
				t.Errorf("Inode %d stands in block %d, not %d", slot, at, b)
			}
			after, _ := v.Store().Read(b)
			copy(before[place*64:], after[place*64:place*64+64])
			if !bytes.Equal(before, after) {
				t.Errorf("SetInode(%d) turned other places", slot)
			}
		}
		if g.Groups*g.Inodes != v.Store().Open() {
			t.Error("Open", v.Store().Open())
		}
	}
}

// P13.3: slots that are not there ahead of inodes that can not be, these ahead of numbers that are no change's.
func TestInodeRefused(t *testing.T) {
	v := mounted(t, formatted(t, 34, example))
	never := []api.Inode{
		{Kind: 4, Id: 1}, {Kind: -1, Id: 1}, {Kind: api.Free, Id: 1}, {Kind: api.File}, {Kind: api.File, Id: 1<<62 + 1},
		{Kind: api.File, Id: 1, Links: 1001}, {Kind: api.Dir, Id: 1, Size: 255}, {Kind: api.Link, Id: 1}, {Kind: api.File, Id: 1, In: 4096},
		{Kind: math.MaxInt, Id: math.MinInt64, Size: math.MaxInt64, Links: math.MinInt},
	}
	for _, slot := range append(far, 16, 17, 34) {
		if i, e := v.Inode(slot); i != (api.Inode{}) || e != api.ErrRange {
			t.Errorf("Inode(%d): %v, %d", slot, i, e)
		}
		for _, i := range append(never, root) {
			id, e := v.SetInode(slot, i, unknown...)
			refused(t, "SetInode of no slot", id, e, api.ErrRange)
		}
	}
	for slot := range 16 {
		for _, i := range never {
			id, e := v.SetInode(slot, i, unknown...)
			refused(t, "SetInode of what can not be", id, e, api.ErrArg)
		}
		for _, after := range unknown {
			id, e := v.SetInode(slot, root, after)
			refused(t, "SetInode behind no change", id, e, api.ErrArg)
		}
	}
	untouched(t, v.Store(), 0)
	if i, _ := v.Inode(vol.Root); i != root {
		t.Error("the root", i)
	}
}

// P13.3: bytes that are no inode, or no header, are told, and may be set anew.
func TestBrokenParts(t *testing.T) {
	v := mounted(t, formatted(t, 34, example))
	v.Store().Patch(20, 64, []byte{9})
	if i, e := v.Inode(13); i != (api.Inode{}) || e != api.ErrForm {
		t.Error("Inode", i, e)
	}
	if i, e := v.Inode(12); i != (api.Inode{}) || e != api.OK {
		t.Error("the inode beside it", i, e)
	}
	v.SetInode(13, root)
	if i, e := v.Inode(13); i != root || e != api.OK {
		t.Error("Inode", i, e)
	}
	v.Store().Patch(18, 0, []byte{0})
	if h, e := v.Head(1); h != (group.Head{}) || e != api.ErrForm {
		t.Error("Head", h, e)
	}
	fresh, _ := group.Fresh(example, 1)
	v.SetHead(1, fresh)
	if h, e := v.Head(1); h != fresh || e != api.OK {
		t.Error("Head", h, e)
	}
	v.Store().Patch(18, 64, []byte{1})
	v.SetHead(1, fresh)
	if _, e := v.Head(1); e != api.ErrForm {
		t.Error("SetHead turned more than the first 64 bytes", e)
	}
}

// P13.3: a change of the first 64 bytes of the header's block.
func TestSetHead(t *testing.T) {
	for _, g := range shapes {
		v := mounted(t, formatted(t, geo.Size(g), g))
		for k := range g.Groups {
			h, _ := v.Head(k)
			h, e := group.UseBlock(g, h, g.Group-1, true)
			answers(t, "UseBlock", e, api.OK)
			h, e = group.UseSlot(g, h, g.Inodes-1, true)
			answers(t, "UseSlot", e, api.OK)
			id, e := v.SetHead(k, h)
			numbered(t, "SetHead", id, e, int64(k+1))
			if got, e := v.Head(k); got != h || e != api.OK {
				t.Errorf("Head(%d): %v, %d", k, got, e)
			}
			b, _ := geo.Head(g, k)
			if at, _ := v.Store().Block(id); at != b {
				t.Errorf("the header %d stands in block %d, not %d", k, at, b)
			}
			want, _ := group.Put(g, h)
			if got, _ := v.Store().Read(b); !bytes.Equal(got, want) {
				t.Errorf("the header %d is %x, not %x", k, got, want)
			}
		}
	}
}

// P13.3: the 64th byte is changed with the header, the 65th is not.
func TestHeadBytes(t *testing.T) {
	v := mounted(t, formatted(t, 34, example))
	fresh, _ := group.Fresh(example, 0)
	inner, _ := v.Store().Patch(2, 63, []byte{7})
	outer, _ := v.Store().Patch(2, 64, []byte{7})
	id, _ := v.SetHead(0, fresh)
	waits := v.Store().Waits(id)
	if len(waits) != 2 || waits[0] != inner || waits[1] != id {
		t.Error("a header's change meets", waits, inner, outer)
	}
	if now, _ := v.Store().Read(2); now[63] != 0 || now[64] != 7 {
		t.Error("a header's change has other bytes", now[63], now[64])
	}
}

// P13.3: groups that are not there, then headers that can not be or are another's, then numbers that are no change's.
func TestHeadRefused(t *testing.T) {
	v := mounted(t, formatted(t, 34, example))
	none, _ := group.Fresh(example, 0)
	one, _ := group.Fresh(example, 1)
	over := one
	over.Blocks[2] = 1
	rootless := none
	rootless.Slots[0] = 1
	for _, k := range append(far, 2, 3, 15, 16) {
		if h, e := v.Head(k); h != (group.Head{}) || e != api.ErrRange {
			t.Errorf("Head(%d): %v, %d", k, h, e)
		}
		for _, h := range []group.Head{{}, none, one, over, {No: k}} {
			id, e := v.SetHead(k, h, unknown...)
			refused(t, "SetHead of no group", id, e, api.ErrRange)
		}
	}
	for k := range 2 {
		for _, h := range []group.Head{{}, {No: k}, {No: -1}, {No: math.MaxInt}, over, rootless, []group.Head{one, none}[k]} {
			id, e := v.SetHead(k, h, unknown...)
			refused(t, "SetHead of what can not be", id, e, api.ErrArg)
			id, e = v.SetHead(k, h)
			refused(t, "SetHead of what can not be", id, e, api.ErrArg)
		}
		for _, after := range unknown {
			id, e := v.SetHead(k, []group.Head{none, one}[k], after)
			refused(t, "SetHead behind no change", id, e, api.ErrArg)
		}
	}
	untouched(t, v.Store(), 0)
}

// P13.3: data blocks are read and changed; all others are refused ahead of patch's errors.
func TestData(t *testing.T) {
	g := api.Geo{Group: 17, Inodes: 12, Groups: 2}
	d := scrawled(t, 40)
	vol.Format(d, g)
	v := mounted(t, d)
	var count int64
	for b := range 42 {
		data, e := v.Data(b)
		if kind, _ := geo.Kind(g, b); kind != geo.Data {
			if data != nil || e != api.ErrRange {
				t.Errorf("Data(%d): %v, %d", b, data, e)
			}
			id, e := v.SetData(b, -1, nil, unknown...)
			refused(t, "SetData of no data block", id, e, api.ErrRange)
			id, e = v.SetData(b, 0, []byte("x"))
			refused(t, "SetData of no data block", id, e, api.ErrRange)
			continue
		}
		if !bytes.Equal(data, scrawl(b)) || e != api.OK {
			t.Errorf("Data(%d): %x, %d", b, data, e)
		}
		id, e := v.SetData(b, b, []byte("xyz"))
		count++
		numbered(t, "SetData", id, e, count)
		copy(data[b:], "xyz")
		if got, _ := v.Data(b); !bytes.Equal(got, data) {
			t.Errorf("Data(%d) is %x, not %x", b, got, data)
		}
	}
	for _, b := range far {
		if data, e := v.Data(b); data != nil || e != api.ErrRange {
			t.Errorf("Data(%d): %v, %d", b, data, e)
		}
		id, e := v.SetData(b, 0, []byte("x"))
		refused(t, "SetData of no block", id, e, api.ErrRange)
	}
	untouched(t, v.Store(), count)
}

// P13.3: patch's errors, ErrSize ahead of ErrArg.
func TestDataRefused(t *testing.T) {
	v := mounted(t, formatted(t, 34, example))
	whole := make([]byte, api.Block)
	for _, c := range []struct {
		from int
		data []byte
	}{{0, nil}, {0, []byte{}}, {256, nil}, {-1, whole}, {1, whole}, {256, []byte("a")}, {255, []byte("ab")}, {0, make([]byte, 257)}, {math.MaxInt, []byte("a")}, {math.MinInt, []byte("a")}} {
		id, e := v.SetData(5, c.from, c.data, unknown...)
		refused(t, "SetData that does not stand within a block", id, e, api.ErrSize)
	}
	for _, after := range unknown {
		id, e := v.SetData(5, 0, whole, after)
		refused(t, "SetData behind no change", id, e, api.ErrArg)
	}
	untouched(t, v.Store(), 0)
	id, e := v.SetData(5, 0, whole)
	numbered(t, "SetData", id, e, 1)
	id, e = v.SetData(5, 255, []byte("a"), 1, 1)
	numbered(t, "SetData", id, e, 2)
}

// P13.3: as many numbers as there are are waited for, by inodes, headers and data alike.
func TestBehindOthers(t *testing.T) {
	d := formatted(t, 34, example)
	v := mounted(t, d)
	a, _ := v.SetData(6, 0, []byte("a"))
	b, _ := v.SetInode(2, root)
	one, _ := group.Fresh(example, 1)
	c, e := v.SetHead(1, one, a, b)
	numbered(t, "SetHead", c, e, 3)
	x, e := v.SetInode(9, root, a, c)
	numbered(t, "SetInode", x, e, 4)
	y, e := v.SetData(33, 0, []byte("y"), []int64{x, b}...)
	numbered(t, "SetData", y, e, 5)
	for id, want := range map[int64]int{a: 1, b: 1, c: 3, x: 4, y: 5} {
		if got := v.Store().Waits(id); len(got) != want {
			t.Errorf("Waits(%d): %v", id, got)
		}
	}
	for range 3 {
		v.Store().Write(33)
		v.Store().Flush()
	}
	if now, _ := d.Read(33); now[0] != 0 {
		t.Error("a change was written ahead of those that it waits for")
	}
	if n, e := push.One(v.Store(), y); n != 5 || e != api.OK {
		t.Error("One", n, e)
	}
}

// The rules 4 and 5: what is handed in is not kept, and what is answered is new memory.
func TestNewMemory(t *testing.T) {
	v := mounted(t, formatted(t, 34, example))
	in, after := []byte("abc"), []int64{1, 1}
	v.SetData(6, 0, []byte("z"))
	v.SetData(5, 0, in, after...)
	copy(in, "xyz")
	after[0] = 2
	data, _ := v.Data(5)
	if string(data[:4]) != "abc\x00" {
		t.Errorf("%q", data[:4])
	}
	clear(data)
	_ = append(data[:3], 'x')
	if again, _ := v.Data(5); string(again[:4]) != "abc\x00" {
		t.Errorf("an answer is the volume's memory: %q", again[:4])
	}
	if got := v.Store().Waits(2); len(got) != 2 || got[0] != 1 {
		t.Error("Waits", got)
	}
}
