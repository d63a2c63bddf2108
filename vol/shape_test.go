package vol_test

import (
	"bytes"
	"math"
	"slices"
	"testing"

	"levee/api"
	"levee/disk"
	"levee/geo"
	"levee/group"
	"levee/patch"
	"levee/push"
	"levee/super"
	"levee/vol"
)

// groups is the example's shape with another number of groups.
func groups(n int) api.Geo {
	return api.Geo{Group: example.Group, Inodes: example.Inodes, Groups: n}
}

// others are shapes that a volume of the example's can not come to have, though some can be.
func others() []api.Geo {
	return append([]api.Geo{
		{Group: 17, Inodes: 8, Groups: 2},
		{Group: 16, Inodes: 4, Groups: 2},
		{Group: 16, Inodes: 12, Groups: 3},
		{Group: 32, Inodes: 8, Groups: 1},
		{Group: 128, Inodes: 64, Groups: 16},
	}, wrong...)
}

// unchanged holds a disk and a volume against what they were.
func unchanged(t *testing.T, d *disk.Disk, before []byte, v *vol.Vol, g api.Geo, gen int64) {
	t.Helper()
	if !bytes.Equal(d.Bytes(), before) || len(d.Open()) != 0 || v.Geo() != g || v.Gen() != gen {
		t.Error("a refused call changed something", d.Open(), v.Geo(), v.Gen())
	}
}

// P13.4: the blocks of all groups behind the volume's are as Format makes them, whatever stood there, safely; nothing else is.
func TestPrepare(t *testing.T) {
	for _, more := range []int{2, 3, 4, 7} {
		d := scrawled(t, 120)
		vol.Format(d, example)
		before := d.Bytes()
		v := mounted(t, d)
		answers(t, "Prepare", v.Prepare(groups(more)), api.OK)
		for b := range 120 {
			want := before[b*api.Block : (b+1)*api.Block]
			kind, k := geo.Kind(groups(more), b)
			if k >= 2 && kind != geo.Data {
				want = first(t, groups(more), b)
			}
			if got, _ := d.Safe(b); !bytes.Equal(got, want) {
				t.Errorf("%d groups: block %d is %x, not %x", more, b, got, want)
			}
		}
		if v.Geo() != example || v.Gen() != 1 || v.Store().Open() != 0 {
			t.Error("Prepare changed the shape", v.Geo(), v.Gen())
		}
		if _, e := v.Head(2); e != api.ErrRange {
			t.Error("a group that is prepared is there already", e)
		}
		for slot := range 16 {
			if i, _ := v.Inode(slot); (i == root) != (slot == vol.Root) {
				t.Errorf("Inode(%d): %v", slot, i)
			}
		}
	}
}

// P13.4: it is done by changes, one a block, and all changes are made safe, others too.
func TestPrepareMakesSafe(t *testing.T) {
	d := formatted(t, 60, example)
	v := mounted(t, d)
	a, _ := v.SetData(6, 0, []byte("a"))
	b, _ := v.SetInode(2, root, a)
	answers(t, "Prepare", v.Prepare(groups(3)), api.OK)
	if v.Store().Open() != 0 || !v.Store().Safe(b+3) || v.Store().Safe(b+4) {
		t.Error("Prepare", v.Store().Open())
	}
	if now, _ := d.Safe(6); now[0] != 'a' {
		t.Error("a change ahead of it is not safe")
	}
	v.SetData(6, 0, []byte("b"))
	answers(t, "Prepare of the same shape", v.Prepare(example), api.OK)
	if now, _ := d.Safe(6); now[0] != 'b' || v.Store().Open() != 0 || v.Geo() != example {
		t.Error("Prepare of the same shape", v.Store().Open())
	}
}

// P13.4: shapes that can not be, or are no larger ones, ahead of too few blocks.
func TestPrepareRefused(t *testing.T) {
	for _, n := range []int{50, 34 + 15, 34} {
		d := formatted(t, n, example)
		v := mounted(t, d)
		before := d.Bytes()
		for _, g := range append(others(), groups(1), groups(0), groups(17)) {
			answers(t, "Prepare of what can not be", v.Prepare(g), api.ErrArg)
		}
		least := 4
		if n < 50 {
			least = 3
		}
		for k := least; k <= 16; k++ {
			answers(t, "Prepare of what the disk has no room for", v.Prepare(groups(k)), api.ErrSize)
		}
		untouched(t, v.Store(), 0)
		unchanged(t, d, before, v, example, 1)
	}
}

// P13.4, P3: wherever the power goes in Prepare, the old volume stands, and Prepare may be called anew.
func TestPreparePowerCut(t *testing.T) {
	for stop := range 9 {
		for pick := range 2 {
			d := scrawled(t, 66)
			vol.Format(d, example)
			v := mounted(t, d)
			d.Stop(stop)
			answers(t, "Prepare", v.Prepare(groups(4)), api.OK)
			d.Crash(slices.Repeat([]int{pick}, 66))
			v = mounted(t, d)
			if v.Geo() != example || v.Gen() != 1 {
				t.Errorf("Stop(%d): %v", stop, v.Geo())
			}
			answers(t, "Prepare", v.Prepare(groups(4)), api.OK)
			answers(t, "Switch", v.Switch(groups(4)), api.OK)
			if v = mounted(t, d); v.Geo() != groups(4) {
				t.Errorf("Stop(%d): %v", stop, v.Geo())
			}
		}
	}
}

// P13.4: the next superblock stands at the other place, whole and safe; the volume has its shape, larger, smaller or the same.
func TestSwitch(t *testing.T) {
	d := formatted(t, 120, example)
	v := mounted(t, d)
	v.Prepare(groups(7))
	for i, n := range []int{3, 7, 7, 1, 2, 6, 5} {
		gen := int64(i + 2)
		before := d.Bytes()
		answers(t, "Switch", v.Switch(groups(n)), api.OK)
		if v.Geo() != groups(n) || v.Gen() != gen || v.Store().Open() != 0 {
			t.Errorf("Switch to %d: %v, %d", n, v.Geo(), v.Gen())
		}
		want, _ := super.Put(super.Super{Gen: gen, Geo: groups(n)})
		copy(before[int(gen%2)*api.Block:], want)
		if !bytes.Equal(d.Bytes(), before) || len(d.Open()) != 0 {
			t.Errorf("Switch to %d wrote other blocks, or bytes", n)
		}
		again := mounted(t, d)
		if again.Geo() != groups(n) || again.Gen() != gen {
			t.Errorf("Mount behind Switch to %d: %v, %d", n, again.Geo(), again.Gen())
		}
	}
}

// P13.4: what is read of the volume goes with the shape.
func TestSwitchParts(t *testing.T) {
	v := mounted(t, formatted(t, 60, example))
	v.Prepare(groups(3))
	v.SetInode(15, root)
	v.Switch(groups(3))
	fresh, _ := group.Fresh(groups(3), 2)
	if h, e := v.Head(2); h != fresh || e != api.OK {
		t.Error("Head", h, e)
	}
	if i, e := v.Inode(23); i != (api.Inode{}) || e != api.OK {
		t.Error("Inode", i, e)
	}
	if _, e := v.Data(49); e != api.OK {
		t.Error("Data", e)
	}
	v.Switch(groups(1))
	_, a := v.Head(1)
	_, b := v.Inode(8)
	_, c := v.Data(21)
	_, x := v.SetHead(1, fresh)
	_, y := v.SetInode(15, root)
	_, z := v.SetData(21, 0, []byte("x"))
	for _, e := range []api.Errno{a, b, c, x, y, z} {
		answers(t, "of a group that is gone", e, api.ErrRange)
	}
	v.Switch(groups(2))
	if i, _ := v.Inode(15); i != root {
		t.Error("Inode", i)
	}
}

// P13.4: one change of a whole block, of which alone it is made safe: changes of other blocks stay open.
func TestSwitchIsOne(t *testing.T) {
	d := formatted(t, 60, example)
	v := mounted(t, d)
	a, _ := v.SetData(6, 0, []byte("a"))
	meets, _ := v.Store().Patch(0, 255, []byte("z"), a)
	b, _ := v.SetData(7, 0, []byte("b"))
	answers(t, "Switch", v.Switch(groups(1)), api.OK)
	if v.Store().Safe(b) || !v.Store().Safe(a) || !v.Store().Safe(meets) || v.Store().Open() != 1 {
		t.Error("Switch made others safe", v.Store().Open())
	}
	if !v.Store().Safe(b+1) || v.Store().Safe(b+2) {
		t.Error("Switch made more than one change")
	}
}

// P13.4: shapes that can not be, or are of other groups, or a last generation, ahead of too few blocks.
func TestSwitchRefused(t *testing.T) {
	d := formatted(t, 50, example)
	v := mounted(t, d)
	before := d.Bytes()
	for _, g := range append(others(), groups(0), groups(17), groups(math.MaxInt)) {
		answers(t, "Switch to what can not be", v.Switch(g), api.ErrArg)
	}
	for k := 4; k <= 16; k++ {
		answers(t, "Switch to what the disk has no room for", v.Switch(groups(k)), api.ErrSize)
	}
	untouched(t, v.Store(), 0)
	unchanged(t, d, before, v, example, 1)
}

// P13.4: behind the generation 2^62 there is none, whatever the shape.
func TestLastGeneration(t *testing.T) {
	d := formatted(t, 50, example)
	laySuper(t, d, super.Super{Gen: 1<<62 - 1, Geo: example})
	v := mounted(t, d)
	answers(t, "Switch to the last", v.Switch(groups(1)), api.OK)
	if v.Gen() != 1<<62 || mounted(t, d).Gen() != 1<<62 {
		t.Error("Gen", v.Gen())
	}
	before := d.Bytes()
	for _, n := range []int{1, 2, 3, 4, 16} {
		answers(t, "Switch behind the last", v.Switch(groups(n)), api.ErrArg)
	}
	unchanged(t, d, before, v, groups(1), 1<<62)
	answers(t, "Prepare", v.Prepare(groups(3)), api.OK)
}

// stands tells which of two shapes a disk has behind a crash.
func stands(t *testing.T, d *disk.Disk, old, other super.Super) super.Super {
	t.Helper()
	v := mounted(t, d)
	got := super.Super{Gen: v.Gen(), Geo: v.Geo()}
	if got != old && got != other {
		t.Fatalf("%v stands, not %v nor %v", got, old, other)
	}
	return got
}

// P13.7 (P3): the power at every point of Switch, and whatever of the writes is there: the old shape, or the new one; the new one just if its superblock was written, surely if Switch had ended.
func TestSwitchPowerCut(t *testing.T) {
	for _, c := range [][2]int{{2, 3}, {3, 2}, {2, 2}, {1, 3}, {3, 1}} {
		for gen := int64(1); gen < 4; gen++ {
			for stop := range 4 {
				for pick := range 3 {
					d := formatted(t, 60, groups(3))
					old := super.Super{Gen: gen, Geo: groups(c[0])}
					laySuper(t, d, old)
					if gen%2 == 0 {
						lay(t, d, 1, scrawl(1))
					}
					v := mounted(t, d)
					d.Stop(stop)
					answers(t, "Switch", v.Switch(groups(c[1])), api.OK)
					d.Crash([]int{pick})
					got := stands(t, d, old, super.Super{Gen: gen + 1, Geo: groups(c[1])})
					if wrote := stop >= 2 || stop == 1 && pick > 0; (got != old) != wrote {
						t.Errorf("%v, Stop(%d), pick %d: %v", c, stop, pick, got)
					}
				}
			}
		}
	}
}

// P13.7 (P3): so it is from Switch to Switch, with changes that are open and go along, also of the superblock's own block.
func TestManySwitches(t *testing.T) {
	for stop := range 40 {
		for pick := range 4 {
			d := formatted(t, 66, example)
			v := mounted(t, d)
			v.Prepare(groups(4))
			d.Stop(stop)
			ended := super.Super{Gen: 1, Geo: example}
			next := ended
			for i := 0; i < 6 && !d.Stopped(); i++ {
				ended = next
				next = super.Super{Gen: ended.Gen + 1, Geo: groups(1 + i*3%4)}
				id, _ := v.SetData(6, 0, []byte{byte(i)})
				v.Store().Patch(int(next.Gen%2), 200, []byte("junk"), id)
				answers(t, "Switch", v.Switch(next.Geo), api.OK)
			}
			stopped := d.Stopped()
			d.Crash([]int{pick % 2, pick / 2})
			if got := stands(t, d, ended, next); !stopped && got != next {
				t.Errorf("Stop(%d), pick %d: %v, and the last Switch had ended", stop, pick, got)
			}
		}
	}
}

// P13.6: with all made safe a volume is mounted again as it is.
func TestMountAgain(t *testing.T) {
	d := formatted(t, 66, example)
	v := mounted(t, d)
	v.Prepare(groups(4))
	v.Switch(groups(4))
	var last int64
	for slot := 2; slot < 32; slot++ {
		id, _ := v.NewId()
		last, _ = v.SetInode(slot, api.Inode{Kind: api.File, Links: 1, Id: id}, behind(last)...)
	}
	for k := range 4 {
		h, _ := v.Head(k)
		h, _ = group.UseBlock(v.Geo(), h, 5+k, true)
		last, _ = v.SetHead(k, h, last)
		v.SetData(5+16*k, k, []byte("data"), last)
	}
	push.All(v.Store())
	d.Crash(nil)
	again := mounted(t, d)
	alike(t, v, again)
	one, _ := v.NewId()
	two, _ := again.NewId()
	if one != two || again.Work().Len() != 0 || again.Store().Open() != 0 {
		t.Error("NewId", one, two)
	}
}

// behind is a change to wait for, or none.
func behind(id int64) []int64 {
	if id == 0 {
		return nil
	}
	return []int64{id}
}

// alike holds all parts of two volumes against each other.
func alike(t *testing.T, v, w *vol.Vol) {
	t.Helper()
	if v.Geo() != w.Geo() || v.Gen() != w.Gen() {
		t.Fatal("other shapes", v.Geo(), w.Geo(), v.Gen(), w.Gen())
	}
	for slot := range geo.Slots(v.Geo()) {
		a, _ := v.Inode(slot)
		if b, _ := w.Inode(slot); a != b {
			t.Errorf("Inode(%d): %v, %v", slot, a, b)
		}
	}
	for k := range v.Geo().Groups {
		a, _ := v.Head(k)
		if b, _ := w.Head(k); a != b {
			t.Errorf("Head(%d): %v, %v", k, a, b)
		}
	}
	for b := range geo.Size(v.Geo()) {
		x, e := v.Data(b)
		if y, f := w.Data(b); !bytes.Equal(x, y) || e != f {
			t.Errorf("Data(%d)", b)
		}
	}
}

// What happens to the disk beside the volume, ahead of a block's first use, the volume sees (rule 1).
func TestBesideTheVolume(t *testing.T) {
	d := formatted(t, 34, example)
	v := mounted(t, d)
	lay(t, d, 6, scrawl(6))
	layInode(t, d, example, 9, root)
	if got, _ := v.Data(6); !bytes.Equal(got, scrawl(6)) {
		t.Error("Data", got)
	}
	if i, _ := v.Inode(9); i != root {
		t.Error("Inode", i)
	}
	var s *patch.Store = v.Store()
	s.Patch(21, 0, []byte("by"))
	if got, _ := v.Data(21); string(got[:2]) != "by" {
		t.Error("Data", got[:2])
	}
}
