package fsck_test

import (
	"bytes"
	"encoding/binary"
	"fmt"
	"slices"
	"strings"
	"testing"

	"levee/api"
	"levee/check"
	"levee/dirent"
	"levee/disk"
	"levee/fs"
	"levee/fsck"
	"levee/geo"
	"levee/inode"
	"levee/scan"
	"levee/super"
	"levee/vol"
)

func answers(t *testing.T, what string, got, want api.Errno) {
	t.Helper()
	if got != want {
		t.Errorf("%s: %d, not %d", what, got, want)
	}
}

func calls(t *testing.T, all ...api.Errno) {
	t.Helper()
	for i, e := range all {
		if e != api.OK {
			t.Fatal("call", i, e)
		}
	}
}

// formatted is a disk of so many blocks, that were all written over, with a new volume.
func formatted(t *testing.T, blocks int, g api.Geo) *disk.Disk {
	t.Helper()
	d, _ := disk.Load(bytes.Repeat([]byte{0xee}, blocks*api.Block))
	answers(t, "Format", vol.Format(d, g), api.OK)
	return d
}

// state is all that a disk tells.
func state(d *disk.Disk) string {
	var b strings.Builder
	fmt.Fprint(&b, d.Open(), d.Stopped())
	for at := range d.Len() {
		safe, _ := d.Safe(at)
		fmt.Fprintf(&b, " %d %x", d.Writes(at), safe)
	}
	return b.String() + string(d.Bytes())
}

// planned are the blocks of a Plan, which changes nothing.
func planned(t *testing.T, what string, d *disk.Disk) ([]int, [][]byte) {
	t.Helper()
	was := state(d)
	blocks, how, e := fsck.Plan(d)
	answers(t, what, e, api.OK)
	if state(d) != was {
		t.Errorf("%s: Plan changed something", what)
	}
	if len(blocks) != len(how) || !slices.IsSorted(blocks) || len(slices.Compact(slices.Clone(blocks))) != len(blocks) {
		t.Fatalf("%s: Plan tells %v, %d", what, blocks, len(how))
	}
	return blocks, how
}

// must are the bytes of a whole disk whose volume is put right, by chapter 28's words, as a scan tells what is kept.
func must(t *testing.T, d *disk.Disk) []byte {
	t.Helper()
	s, e := scan.Read(d)
	calls(t, e)
	all, g := d.Bytes(), s.Geo()
	for k := range g.Groups {
		from := 2 + k*g.Group
		head := make([]byte, api.Block)
		blocks, slots := g.Group, g.Inodes
		for n := range g.Group {
			if b := from + n; n <= g.Inodes/4 || s.Owner(b) != 0 {
				head[16+n/8] |= 1 << (n % 8)
				blocks--
				if n > g.Inodes/4 {
					copy(all[b*256:], s.Block(b))
				}
			}
		}
		for n := range g.Inodes {
			slot := k*g.Inodes + n
			at := all[(from+1)*256+n*64:][:64]
			clear(at)
			if i, kept := s.Thing(slot); kept {
				whole, _ := inode.Put(i)
				copy(at, whole)
			}
			if _, kept := s.Thing(slot); kept || slot < 2 {
				head[32+n/8] |= 1 << (n % 8)
				slots--
			}
		}
		copy(head, "LGRP")
		binary.LittleEndian.PutUint16(head[4:], uint16(k))
		binary.LittleEndian.PutUint16(head[6:], uint16(blocks))
		binary.LittleEndian.PutUint16(head[8:], uint16(slots))
		copy(all[from*256:], head)
	}
	return all
}

// holds holds what Plan and Repair make of a disk, and answers what Repair says.
func holds(t *testing.T, what string, d *disk.Disk) fsck.Report {
	t.Helper()
	want := must(t, d)
	blocks, how := planned(t, what, d)
	var others []int
	for b := range d.Len() {
		if now, _ := d.Read(b); !bytes.Equal(now, want[b*256:b*256+256]) {
			others = append(others, b)
		}
	}
	if !slices.Equal(blocks, others) {
		t.Errorf("%s: Plan tells %v, not %v", what, blocks, others)
	}
	for i, b := range blocks {
		if !bytes.Equal(how[i], want[b*256:b*256+256]) {
			t.Errorf("%s: the block %d must be\n%x, not\n%x", what, b, how[i], want[b*256:b*256+256])
		}
	}
	s, _ := scan.Read(d)
	r := repairs(t, d)
	if r != (fsck.Report{Kept: len(s.Kept()), Lost: len(s.Lost()), Written: len(blocks)}) {
		t.Errorf("%s: Repair tells %+v, not %d, %d, %d", what, r, len(s.Kept()), len(s.Lost()), len(blocks))
	}
	if !bytes.Equal(d.Bytes(), want) {
		t.Errorf("%s: the disk is not as it must be", what)
	}
	return r
}

// P28.1, P28.2: of no disk, and of disks on which there is no superblock: nothing is changed.
func TestNoVolume(t *testing.T) {
	refused := func(what string, d *disk.Disk, want api.Errno) {
		t.Helper()
		was := state(d)
		blocks, how, e := fsck.Plan(d)
		if len(blocks) != 0 || len(how) != 0 || e != want {
			t.Errorf("%s: Plan: %v, %v, %d, not %d", what, blocks, how, e, want)
		}
		if r, e := fsck.Repair(d); r != (fsck.Report{}) || e != want {
			t.Errorf("%s: Repair: %v, %d, not %d", what, r, e, want)
		}
		if state(d) != was {
			t.Errorf("%s: something was changed", what)
		}
	}
	refused("nil", nil, api.ErrNil)
	refused("a disk that was not made", new(disk.Disk), api.ErrSuper)
	for _, n := range []int{1, 2, 3, 74, api.MaxBlocks} {
		d, _ := disk.New(n)
		refused("zeros", d, api.ErrSuper)
		d, _ = disk.Load(bytes.Repeat([]byte{0xff}, n*api.Block))
		refused("ones", d, api.ErrSuper)
	}
	whole := formatted(t, 50, shape(2)).Bytes()
	for n := 1; n < 50; n++ {
		d, _ := disk.Load(whole[:n*api.Block])
		refused(fmt.Sprint("cut to ", n), d, api.ErrSuper)
	}
	d, _ := disk.Load(whole)
	d.Write(1, make([]byte, api.Block))
	d.Write(5, make([]byte, api.Block))
	refused("with a superblock that was written over", d, api.ErrSuper)
	d.Crash(nil)
	holds(t, "behind a crash", d)
}

// P28.3, the example: a fresh volume, of any shape, is as it must be; nothing is flushed either.
func TestFresh(t *testing.T) {
	for _, g := range []api.Geo{{Group: 16, Inodes: 4, Groups: 1}, {Group: 16, Inodes: 8, Groups: 2}, {Group: 16, Inodes: 44, Groups: 16}, {Group: 21, Inodes: 64, Groups: 1}, {Group: 128, Inodes: 64, Groups: 16}} {
		for _, more := range []int{0, 1, 99} {
			d := formatted(t, geo.Size(g)+more, g)
			free, _ := geo.Range(g, 0)
			d.Write(free, make([]byte, api.Block)) // of no thing
			was := state(d)
			if r, e := fsck.Repair(d); r != (fsck.Report{Kept: 1}) || e != api.OK {
				t.Errorf("%v: %v, %d", g, r, e)
			}
			if blocks, how, e := fsck.Plan(d); len(blocks) != 0 || len(how) != 0 || e != api.OK {
				t.Errorf("%v: %v, %v, %d", g, blocks, how, e)
			}
			if state(d) != was {
				t.Errorf("%v: something was changed", g)
			}
			if !slices.Equal(d.Open(), []int{free}) {
				t.Errorf("%v: it was flushed", g)
			}
		}
	}
}

// P28.1, the example: each byte of each header is put right, alone.
func TestHeaders(t *testing.T) {
	g := shape(3)
	for k := range g.Groups {
		head, _ := geo.Head(g, k)
		for at := range api.Block {
			d := formatted(t, geo.Size(g), g)
			must := d.Bytes()
			b, _ := d.Read(head)
			b[at] ^= 1 << (at % 8)
			d.Write(head, b)
			if blocks, _ := planned(t, "a header", d); !slices.Equal(blocks, []int{head}) {
				t.Errorf("the byte %d: %v", at, blocks)
			}
			if r, e := fsck.Repair(d); r != (fsck.Report{Kept: 1, Written: 1}) || e != api.OK {
				t.Errorf("the byte %d: %v, %d", at, r, e)
			}
			if !bytes.Equal(d.Bytes(), must) || len(d.Open()) > 0 {
				t.Errorf("the byte %d: the disk is not as it was", at)
			}
		}
	}
}

// treed is a volume of two groups with the tree of manyNames, all safe.
func treed(t *testing.T) (*disk.Disk, *machine) {
	t.Helper()
	r := dice(5)
	m := newMachine(t, &r, geo.Size(shape(2))+3, shape(2))
	manyNames(t, m)
	_, e := m.sync().Sync()
	calls(t, e)
	return m.d, m
}

// P28.1: what is put right, part by part.
func TestParts(t *testing.T) {
	d, m := treed(t)
	a, b, f, l := m.slot(t, "/a"), m.slot(t, "/a/b"), m.slot(t, "/f"), m.slot(t, "/l")
	free := 14
	table := func(slot int) int { b, _, _ := geo.Place(shape(2), slot); return b }
	heads := []int{2, 26}
	for _, c := range []struct {
		name string
		edit func(p *paper)
		want fsck.Report // of 7 things
		some []int       // that must be other ones, at least
	}{
		{"nothing", func(*paper) {}, fsck.Report{Kept: 7}, nil},
		{"a thing that no entry names", func(p *paper) { p.put(free, api.Inode{Kind: api.File, Links: 1, Id: 99}) }, fsck.Report{Kept: 7, Lost: 1, Written: 1}, []int{table(free)}},
		{"bytes in a slot without a thing", func(p *paper) { p.at(table(free))[255]++ }, fsck.Report{Kept: 7, Written: 1}, []int{table(free)}},
		{"bytes in the slot 0", func(p *paper) { p.at(3)[0] = 1 }, fsck.Report{Kept: 7, Written: 1}, []int{3}},
		{"a thing in the slot 0", func(p *paper) { p.put(0, p.thing(f)) }, fsck.Report{Kept: 7, Written: 1}, []int{3}},
		{"links", func(p *paper) { p.inode(f, func(i *api.Inode) { i.Links = 1 }) }, fsck.Report{Kept: 7, Written: 1}, []int{table(f)}},
		{"no root", func(p *paper) { p.put(vol.Root, api.Inode{}) }, fsck.Report{Kept: 1, Lost: 6, Written: 3}, []int{2, 3, 4}},
		{"a header, and the other one", func(p *paper) { copy(p.at(2), p.at(26)) }, fsck.Report{Kept: 7, Written: 1}, heads[:1]},
		{"no headers", func(p *paper) { clear(p.at(2)); clear(p.at(26)) }, fsck.Report{Kept: 7, Written: 2}, heads},
		{"a header in which all is set", func(p *paper) { copy(p.at(2)[16:], bytes.Repeat([]byte{255}, 24)) }, fsck.Report{Kept: 7, Written: 1}, heads[:1]},
		{"bytes behind a file's end", func(p *paper) {
			p.inode(f, func(i *api.Inode) { i.Size = 1999 })
		}, fsck.Report{Kept: 7, Written: 1}, []int{}},
		{"bytes behind a link's end", func(p *paper) { p.at(p.thing(l).P[0])[4]++ }, fsck.Report{Kept: 7, Written: 1}, nil},
		{"an entry that can not be", func(p *paper) { p.at(p.thing(a).P[0])[7*32+31]++ }, fsck.Report{Kept: 7, Written: 1}, nil},
		{"a directory without bytes", func(p *paper) {
			p.inode(a, func(i *api.Inode) { i.Size = 0 })
		}, fsck.Report{Kept: 5, Lost: 2, Written: 3}, []int{2, table(a)}},
		{"a directory that can not be", func(p *paper) { p.at(table(b))[64*(b%4)+63]++ }, fsck.Report{Kept: 5, Lost: 1, Written: 4}, []int{2, table(b)}},
	} {
		p := paperOf(t, d, shape(2))
		c.edit(p)
		x := p.disk()
		blocks, _ := planned(t, c.name, x)
		for _, b := range c.some {
			if !slices.Contains(blocks, b) {
				t.Errorf("%s: the block %d is not told: %v", c.name, b, blocks)
			}
		}
		if r := holds(t, c.name, x); r != c.want {
			t.Errorf("%s: %+v, not %+v; %v", c.name, r, c.want, blocks)
		}
	}
}

// P28.1, the tenth example of the whole: a table that was written over: what the root comes to is kept, all else is free.
func TestTable(t *testing.T) {
	d, _ := treed(t)
	for b := 3; b < 5; b++ {
		for _, x := range []byte{0, 0xff} {
			p := paperOf(t, d, shape(2))
			for at := range api.Block {
				p.at(b)[at] = x
			}
			c := p.disk()
			kept := holds(t, "a table", c).Kept
			w, _ := check.Whole(c)
			if kept != w.Dirs+w.Files+w.Links || b == 3 && kept != 1 || b == 4 && kept < 3 {
				t.Errorf("the block %d: %d are kept", b, kept)
			}
			f, e := fs.Mount(c)
			calls(t, e, f.Mkdir("/new"))
			if _, e := f.Stat("/a", false); b == 4 && e != api.OK {
				t.Errorf("Stat: %d", e)
			}
		}
	}
}

// P28.1: superblocks, data blocks that no thing owns, and blocks behind the volume stay, whatever they are.
func TestOthers(t *testing.T) {
	d, _ := treed(t)
	p := paperOf(t, d, shape(2))
	next, _ := super.Put(super.Super{Gen: 2, Geo: shape(2)})
	copy(p.at(0), next)
	p.at(1)[77]++
	for _, b := range []int{49, 50, 51, 52} {
		for at := range api.Block {
			p.at(b)[at] = byte(at * b)
		}
	}
	was := slices.Clone(p.bytes)
	clear(p.at(26))
	c := p.disk()
	if r := holds(t, "others", c); r.Written != 1 {
		t.Errorf("%v", r)
	}
	if !bytes.Equal(c.Bytes(), was) {
		t.Error("something else was changed")
	}
}

// P28.1: of a disk that was written and not flushed it is what is read; all is flushed behind it, but if there is nothing to be put right.
func TestFlush(t *testing.T) {
	d, m := treed(t)
	calls(t, m.fs().Create("/new"))
	for n := range m.sync().Dirty() {
		m.sync().Write(n)
	}
	open := len(d.Open())
	c := d.Copy()
	r, e := fsck.Repair(c)
	if e != api.OK || (r.Written > 0) != (len(c.Open()) == 0) || r.Written == 0 && len(c.Open()) != open {
		t.Errorf("%v, %d: open are %v, of %d", r, e, c.Open(), open)
	}
	d.Write(26, make([]byte, api.Block))
	d.Write(49, make([]byte, api.Block))
	if r, e := fsck.Repair(d); e != api.OK || r.Written == 0 || len(d.Open()) != 0 {
		t.Errorf("%v, %d: open are %v", r, e, d.Open())
	}
}

// P28.1: the blocks are written rising, and then all is flushed: the disk stopped behind each.
func TestOrder(t *testing.T) {
	d, m := treed(t)
	p := paperOf(t, d, shape(2))
	p.put(9, api.Inode{Kind: api.File, Id: 99})
	for _, b := range []int{2, 26} {
		clear(p.at(b))
	}
	for slot := 1; slot < 8; slot++ {
		p.inode(slot, func(i *api.Inode) { i.Links += 2 })
	}
	root := p.thing(vol.Root).P[0]
	p.at(root)[7*32+31]++
	p.entry(root, 6, api.Entry{Slot: 13, Name: "none"})
	e, _ := dirent.Read(p.at(root), 0)
	e.Leaving = true
	p.entry(root, 0, e)
	p.call(p.thing(m.slot(t, "/f")).In, 63, 1<<16|7)
	d = p.disk()
	blocks, how := planned(t, "order", d)
	if len(blocks) < 6 || !slices.Contains(blocks, root) {
		t.Fatal(blocks)
	}
	for stop := range len(blocks) + 2 {
		c := d.Copy()
		c.Stop(stop)
		r, e := fsck.Repair(c)
		if e != api.OK || r.Written != len(blocks) {
			t.Errorf("stopped at %d: %v, %d", stop, r, e)
		}
		want := d.Bytes()
		for i, b := range blocks[:min(stop, len(blocks))] {
			copy(want[b*256:], how[i])
		}
		open := blocks[:min(stop, len(blocks))]
		if stop > len(blocks) {
			open = nil
		}
		if !bytes.Equal(c.Bytes(), want) || !slices.Equal(c.Open(), open) {
			t.Errorf("stopped at %d: open are %v, not %v", stop, c.Open(), open)
		}
		if c.Stopped() != (stop <= len(blocks)+1) {
			t.Errorf("stopped at %d: %t", stop, c.Stopped())
		}
	}
}

// What is answered is the caller's.
func TestMemory(t *testing.T) {
	d, _ := treed(t)
	p := paperOf(t, d, shape(2))
	clear(p.at(2))
	p.at(p.thing(vol.Root).P[0])[7*32+31]++
	d = p.disk()
	blocks, how := planned(t, "memory", d)
	want := must(t, d)
	for i := range how {
		clear(how[i])
		_ = append(how[i][:1], 7)
		blocks[i] = 0
	}
	blocks, how = planned(t, "memory", d)
	for i, b := range blocks {
		if !bytes.Equal(how[i], want[b*256:b*256+256]) {
			t.Errorf("the block %d is another one", b)
		}
	}
	if holds(t, "memory", d).Written != len(blocks) {
		t.Error("other blocks were written")
	}
}

// P28.1, P28.5: names of a thing that stands in two slots are safe ahead of the tables: each block of a directory that is to name the other slot. They are written again then, rising with all others.
func TestTurnedNames(t *testing.T) {
	d, m := treed(t)
	a, f := m.slot(t, "/a"), m.slot(t, "/f")
	p := paperOf(t, d, shape(2))
	p.put(15, p.thing(f))
	at := p.thing(a).P[0]
	for place := range api.PerDir {
		if e, _ := dirent.Read(p.at(at), place); e.Slot == f {
			e.Slot = 15
			p.entry(at, place, e)
		}
	}
	p.inode(m.slot(t, "/l"), func(i *api.Inode) { i.Links = 9 })
	d = p.disk()
	blocks, how := planned(t, "turned", d)
	if !slices.Contains(blocks, at) || blocks[0] == at {
		t.Fatal(blocks)
	}
	for stop := range len(blocks) + 4 {
		c := d.Copy()
		c.Stop(stop)
		_, e := fsck.Repair(c)
		answers(t, "Repair", e, api.OK)
		safe, _ := c.Safe(at)
		if first := how[slices.Index(blocks, at)]; bytes.Equal(safe, first) != (stop > 1) {
			t.Errorf("stopped at %d: the directory is safe: %t", stop, bytes.Equal(safe, first))
		}
		open := blocks[:max(min(stop-2, len(blocks)), 0)]
		switch {
		case stop == 1:
			open = []int{at}
		case stop == len(blocks)+3:
			open = nil
		}
		if !slices.Equal(c.Open(), open) || c.Stopped() != (stop <= len(blocks)+3) {
			t.Errorf("stopped at %d: open are %v, not %v", stop, c.Open(), open)
		}
	}
	cut(t, d)
	holds(t, "turned", d)
	x, e := fs.Mount(d)
	calls(t, e)
	for _, path := range []string{"/f", "/a/f", "/a/g", "/a/b/g", "/c/g", "/z"} {
		if s, e := x.Stat(path, false); s.Links != 6 || e != api.OK {
			t.Errorf("%s: %v, %d", path, s, e)
		}
	}
}
