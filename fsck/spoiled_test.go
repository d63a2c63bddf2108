package fsck_test

import (
	"bytes"
	"testing"

	"levee/api"
	"levee/check"
	"levee/disk"
	"levee/fsck"
	"levee/geo"
	"levee/scan"
	"levee/super"
	"levee/vol"
)

// grown is a volume with a tree that some calls made, and that things were moved in, all safe.
func grown(t *testing.T, r *dice) *machine {
	t.Helper()
	m := shaken(t, r)
	for range 120 {
		m.call()
		if r.below(5) == 0 {
			m.does(m.moves)
		}
	}
	for fd := range api.MaxOpen {
		m.fs().Close(fd)
	}
	_, e := m.sync().Sync()
	calls(t, e)
	return m
}

// stays holds that what is whole is not changed, and answers whether it is.
func stays(t *testing.T, d *disk.Disk) bool {
	t.Helper()
	w, e := check.Whole(d)
	if e != api.OK {
		return false
	}
	was := state(d)
	r, e := fsck.Repair(d)
	if e != api.OK || r != (fsck.Report{Kept: w.Dirs + w.Files + w.Links}) || state(d) != was {
		t.Errorf("a whole volume: %v, %d", r, e)
	}
	return true
}

// broken puts a disk right, the power going on the way again and again, with any of what was written kept: in the end it is whole.
func broken(t *testing.T, r *dice, d *disk.Disk) {
	t.Helper()
	for range 1 + r.below(3) {
		all, _, _ := fsck.Plan(d)
		d.Stop(r.below(len(all) + 4))
		_, e := fsck.Repair(d)
		answers(t, "Repair", e, api.OK)
		pick := make([]int, len(d.Open()))
		for i := range pick {
			pick[i] = r.below(2)
		}
		d.Crash(pick)
	}
	holds(t, "broken", d)
}

// P28.1, P28.2, P28.3 (P4): whatever is written over, the volume is put right as the words say, and mounted; the power may go on the way.
func TestSpoiled(t *testing.T) {
	r := dice(1618033988)
	whole, written := 0, 0
	for run := range 60 {
		m := grown(t, &r)
		if !stays(t, m.d) {
			t.Error("what was made safe is not whole")
		}
		for n := range 40 {
			p := paperOf(t, m.d, m.volume().Geo())
			for range 1 + r.below(1+n) {
				p.spoiled(&r)
			}
			d := p.disk()
			if stays(t, d) {
				whole++
			}
			broken(t, &r, d.Copy())
			if holds(t, "spoiled", d).Written > 1 {
				written++
			}
			if v, e := vol.Mount(d); e != api.OK || v.Geo() != p.geo {
				t.Errorf("Mount: %d", e)
			}
			if t.Failed() {
				t.Fatal(run, n)
			}
		}
	}
	if whole < 50 || written < 500 {
		t.Errorf("%d were whole, of %d more than one block was written", whole, written)
	}
}

// P28.2 (P4): whatever bytes stand on a disk: it is put right, or there is no superblock, and nothing is changed.
func TestAnyBytes(t *testing.T) {
	r := dice(1414213562)
	none, more := 0, 0
	for run := range 200 {
		g := api.Geo{Group: 16 + r.below(112), Inodes: 4 * (1 + r.below(3)), Groups: 1 + r.below(16)}
		p := paperOf(t, formatted(t, geo.Size(g)+r.below(9), g), g)
		from := []int{0, 2, 2, 2}[r.below(4)]
		for range []int{1, 3, 20, 300}[r.below(4)] {
			b := from + r.below(len(p.bytes)/api.Block-from)
			for at := range api.Block {
				p.at(b)[at] = byte(r.below([]int{2, 256}[b%2]))
			}
		}
		d := p.disk()
		was := state(d)
		if _, e := scan.Read(d); e != api.OK {
			none++
			if r, e := fsck.Repair(d); r != (fsck.Report{}) || e != api.ErrSuper || state(d) != was {
				t.Errorf("no superblock: %v, %d", r, e)
			}
			continue
		}
		broken(t, &r, d.Copy())
		if holds(t, "any bytes", d).Written > 5 {
			more++
		}
		if t.Failed() {
			t.Fatal(run)
		}
	}
	if none < 5 || more < 20 {
		t.Errorf("%d had no superblock, of %d many blocks were written", none, more)
	}
}

// P28.2 (P4): volumes, at the least and at the greatest shape too, whose slots and blocks are all full of things that can be, under a superblock of any other shape too.
func TestFull(t *testing.T) {
	r := dice(577215664)
	for _, g := range []api.Geo{{Group: 16, Inodes: 4, Groups: 1}, {Group: 16, Inodes: 44, Groups: 1}, {Group: 21, Inodes: 64, Groups: 2}, {Group: 128, Inodes: 64, Groups: 16}, {Group: 128, Inodes: 4, Groups: 16}, {Group: 24, Inodes: 8, Groups: 3}} {
		for range 5 {
			p := paperOf(t, formatted(t, geo.Size(g), g), g)
			inodes(p, &r)
			d := p.disk()
			broken(t, &r, d.Copy())
			holds(t, "full", d)
			other := api.Geo{Group: 16 + r.below(g.Group-15), Inodes: 4 * (1 + r.below(3)), Groups: 1 + r.below(g.Groups)}
			next, e := super.Put(super.Super{Gen: 2, Geo: other})
			calls(t, e)
			copy(p.at(0), next)
			d = p.disk()
			broken(t, &r, d.Copy())
			holds(t, "of another shape", d)
			if t.Failed() {
				t.Fatal(g)
			}
		}
	}
}

// P28.3 (P4): bytes that are the same before and behind it: what was put right is put right once.
func TestTwice(t *testing.T) {
	r := dice(86028121)
	for range 40 {
		m := grown(t, &r)
		p := paperOf(t, m.d, m.volume().Geo())
		for range 30 {
			p.spoiled(&r)
		}
		d := p.disk()
		holds(t, "once", d)
		was := d.Bytes()
		other, _ := disk.Load(was)
		if !stays(t, other) || !bytes.Equal(other.Bytes(), was) {
			t.Error("it was put right twice")
		}
	}
}
