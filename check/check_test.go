package check_test

import (
	"bytes"
	"encoding/binary"
	"fmt"
	"math"
	"slices"
	"strings"
	"testing"

	"levee/api"
	"levee/check"
	"levee/dirent"
	"levee/disk"
	"levee/fs"
	"levee/geo"
	"levee/group"
	"levee/inode"
	"levee/super"
	"levee/sync"
	"levee/vol"
)

// shape is that of most volumes here: a group has 24 blocks, of which 3 are no data, and 8 slots.
var shape = api.Geo{Group: 24, Inodes: 8, Groups: 3}

// block is the n-th data block of a group.
func block(k, n int) int { return 2 + 24*k + 3 + n }

func answers(t *testing.T, what string, got, want api.Errno) {
	t.Helper()
	if got != want {
		t.Errorf("%s: %d, not %d", what, got, want)
	}
}

func calls(t *testing.T, all ...api.Errno) {
	t.Helper()
	for i, e := range all {
		if e != api.OK {
			t.Fatal("call", i, e)
		}
	}
}

// formatted is a disk of so many blocks, that were all written over, with a new volume.
func formatted(t *testing.T, blocks int, g api.Geo) *disk.Disk {
	t.Helper()
	d, _ := disk.Load(bytes.Repeat([]byte{0xee}, blocks*api.Block))
	answers(t, "Format", vol.Format(d, g), api.OK)
	return d
}

// tells holds what Whole answers, and that it changes nothing.
func tells(t *testing.T, what string, d *disk.Disk, report check.Report, errno api.Errno) {
	t.Helper()
	state := func() string {
		var b strings.Builder
		fmt.Fprint(&b, d.Open(), d.Stopped())
		for at := range d.Len() {
			safe, _ := d.Safe(at)
			fmt.Fprintf(&b, " %d %x", d.Writes(at), safe)
		}
		return b.String() + string(d.Bytes())
	}
	was := state()
	if r, e := check.Whole(d); r != report || e != errno {
		t.Errorf("%s: %+v, %d, not %+v, %d", what, r, e, report, errno)
	}
	if state() != was {
		t.Errorf("%s: something was changed", what)
	}
}

// things are the slots of what stands on the volume of planted.
type things struct {
	a, b, c, f, deep, l, empty int
}

// planted is a volume with a tree, all safe: in the root a, b, deep, l and f, which is a/f, too; in a that, empty and many names of empty, in b the directory c. deep has a block by the inode, one by In, three by Din.
func planted(t *testing.T) (*disk.Disk, things) {
	t.Helper()
	d := formatted(t, geo.Size(shape)+5, shape)
	f, e := fs.Mount(d)
	calls(t, e, f.Mkdir("/a"), f.Create("/a/f"), f.Create("/a/empty"), f.Link("/a/f", "/f"), f.Mkdir("/b"), f.Mkdir("/b/c"), f.Create("/deep"), f.Symlink("a/f", "/l"))
	for n := range 7 {
		calls(t, f.Link("/a/empty", fmt.Sprint("/a/", n)))
	}
	for fd, path := range []string{"/f", "/deep"} {
		if n, e := f.Open(path); n != fd || e != api.OK {
			t.Fatal("Open", n, e)
		}
	}
	calls(t, f.Write(0, 0, []byte(strings.Repeat("f", 300))))
	for _, n := range []int64{1, 8, 70, 71, 199} {
		calls(t, f.Write(1, n*api.Block+9, []byte("deep")))
	}
	_, e = sync.New(f).Sync()
	calls(t, e)
	slot := func(path string) int {
		way, e := f.Nodes().Tree().Walk(path, false)
		calls(t, e)
		return way[len(way)-1]
	}
	return d, things{a: slot("/a"), b: slot("/b"), c: slot("/b/c"), f: slot("/f"), deep: slot("/deep"), l: slot("/l"), empty: slot("/a/empty")}
}

// standing is what stands on the volume of planted: blocks are 1 of the root, 2 of a, 1 of b, 2 of f, 5 of deep with 4 of names, 1 of l.
func standing() check.Report {
	return check.Report{Dirs: 4, Files: 3, Links: 1, Blocks: 16, Free: 3*21 - 16, Slots: 24 - 9}
}

// paper is a disk whose bytes are written over.
type paper struct {
	t     *testing.T
	bytes []byte
	geo   api.Geo
}

func paperOf(t *testing.T, d *disk.Disk, g api.Geo) *paper {
	return &paper{t: t, bytes: d.Bytes(), geo: g}
}

func (p *paper) disk() *disk.Disk {
	p.t.Helper()
	d, e := disk.Load(p.bytes)
	calls(p.t, e)
	return d
}

// at are a block's bytes, where they stand.
func (p *paper) at(b int) []byte { return p.bytes[b*api.Block : (b+1)*api.Block] }

func (p *paper) thing(slot int) api.Inode {
	p.t.Helper()
	b, place, e := geo.Place(p.geo, slot)
	calls(p.t, e)
	i, e := inode.Read(p.at(b), place)
	calls(p.t, e)
	return i
}

// inode makes another inode of one.
func (p *paper) inode(slot int, turn func(i *api.Inode)) {
	p.t.Helper()
	i := p.thing(slot)
	turn(&i)
	b, place, _ := geo.Place(p.geo, slot)
	whole, e := inode.Lay(p.at(b), place, i)
	calls(p.t, e)
	copy(p.at(b), whole)
}

func (p *paper) head(k int) group.Head {
	p.t.Helper()
	b, _ := geo.Head(p.geo, k)
	h, e := group.Get(p.geo, p.at(b))
	calls(p.t, e)
	return h
}

func (p *paper) setHead(k int, h group.Head) {
	p.t.Helper()
	b, _ := geo.Head(p.geo, k)
	whole, e := group.Put(p.geo, h)
	calls(p.t, e)
	copy(p.at(b), whole)
}

// use sets data blocks in their headers, or not.
func (p *paper) use(on bool, blocks ...int) {
	p.t.Helper()
	for _, b := range blocks {
		_, k := geo.Kind(p.geo, b)
		first, _ := geo.Head(p.geo, k)
		h, e := group.UseBlock(p.geo, p.head(k), b-first, on)
		calls(p.t, e)
		p.setHead(k, h)
	}
}

// useSlot sets a slot in its header, or not.
func (p *paper) useSlot(on bool, slot int) {
	p.t.Helper()
	k := geo.Of(p.geo, slot)
	h, e := group.UseSlot(p.geo, p.head(k), slot%p.geo.Inodes, on)
	calls(p.t, e)
	p.setHead(k, h)
}

// entry lays an entry at a place of a block.
func (p *paper) entry(b, place int, e api.Entry) {
	p.t.Helper()
	whole, errno := dirent.Lay(p.at(b), place, e)
	calls(p.t, errno)
	copy(p.at(b), whole)
}

// place is where a name stands in a directory's first block.
func (p *paper) place(dir int, name string) (int, int) {
	p.t.Helper()
	b := p.thing(dir).P[0]
	at := dirent.Find(p.at(b), name)
	if at < 0 {
		p.t.Fatal("no", name)
	}
	return b, at
}

// turn makes another entry of a name's.
func (p *paper) turn(dir int, name string, turn func(e *api.Entry)) {
	p.t.Helper()
	b, at := p.place(dir, name)
	e, _ := dirent.Read(p.at(b), at)
	turn(&e)
	p.entry(b, at, e)
}

// add adds a name in a directory's first block.
func (p *paper) add(dir int, name string, slot int) {
	p.t.Helper()
	b := p.thing(dir).P[0]
	p.entry(b, dirent.Room(p.at(b)), api.Entry{Slot: slot, Name: name})
}

// call gives a block a name at a place of a block of names.
func (p *paper) call(names, at int, name uint32) {
	binary.LittleEndian.PutUint32(p.at(names)[4*at:], name)
}

func (p *paper) called(names, at int) int {
	return int(binary.LittleEndian.Uint32(p.at(names)[4*at:]))
}

// spare are data blocks of the last group, that nothing has.
var spare = []int{block(2, 18), block(2, 19), block(2, 20)}

// edge writes over the volume of planted.
type edge struct {
	name string
	edit func(p *paper, x things)
	want check.Report // if it is whole still
}

// held holds what is told of each edge: ErrForm, unless there is something that is wanted.
func held(t *testing.T, edges []edge) {
	t.Helper()
	d, x := planted(t)
	for _, c := range edges {
		p := paperOf(t, d, shape)
		c.edit(p, x)
		if bytes.Equal(p.bytes, d.Bytes()) {
			t.Errorf("%s: nothing was written over", c.name)
		}
		errno := api.ErrForm
		if c.want != (check.Report{}) {
			errno = api.OK
		}
		tells(t, c.name, p.disk(), c.want, errno)
	}
}

// but is what stands on the volume of planted, with so many blocks more.
func but(blocks int) check.Report {
	r := standing()
	r.Blocks += blocks
	r.Free -= blocks
	return r
}

// P26.1: of no disk, and of disks on which there is no volume.
func TestNoVolume(t *testing.T) {
	tells(t, "nil", nil, check.Report{}, api.ErrNil)
	tells(t, "a disk that was not made", new(disk.Disk), check.Report{}, api.ErrSuper)
	for _, n := range []int{1, 2, 3, 74, api.MaxBlocks} {
		d, _ := disk.New(n)
		tells(t, "zeros", d, check.Report{}, api.ErrSuper)
		d, _ = disk.Load(bytes.Repeat([]byte{0xff}, n*api.Block))
		tells(t, "ones", d, check.Report{}, api.ErrSuper)
	}
}

// P26.1: superblocks that can not be chosen, ahead of all else, and those that are not asked for another one can.
func TestSuper(t *testing.T) {
	d, _ := planted(t)
	first, _ := super.Put(super.Super{Gen: 1, Geo: shape})
	second, _ := super.Put(super.Super{Gen: 2, Geo: shape})
	third, _ := super.Put(super.Super{Gen: 3, Geo: shape})
	wide, _ := super.Put(super.Super{Gen: 2, Geo: api.Geo{Group: 24, Inodes: 8, Groups: 4}})
	none := make([]byte, api.Block)
	turned := func(b []byte, at int) []byte {
		c := slices.Clone(b)
		c[at] ^= 1
		return c
	}
	for _, c := range []struct {
		name string
		a, b []byte
		want api.Errno
	}{
		{"the first one", none, first, api.OK},
		{"at the other place", first, none, api.ErrSuper},
		{"at both places", first, first, api.OK},
		{"the newer one at the other place", third, first, api.OK},
		{"both at the other place", third, second, api.ErrSuper},
		{"none", none, none, api.ErrSuper},
		{"with a broken sum", none, turned(first, 255), api.ErrSuper},
		{"with another mark", none, turned(first, 0), api.ErrSuper},
		{"with bytes where there must be none", none, turned(first, 99), api.ErrSuper},
		{"of a volume that is larger than the disk", wide, none, api.ErrSuper},
		{"and a newer one of a volume that is larger than the disk", wide, first, api.OK},
		{"two of one shape", second, first, api.OK},
	} {
		p := paperOf(t, d, shape)
		copy(p.at(0), c.a)
		copy(p.at(1), c.b)
		want := check.Report{}
		if c.want == api.OK {
			want = standing()
		}
		tells(t, c.name, p.disk(), want, c.want)
		clear(p.at(2))
		if c.want == api.OK {
			c.want = api.ErrForm
		}
		tells(t, c.name+", and no header", p.disk(), check.Report{}, c.want)
	}
	for n := range d.Len() {
		p := paperOf(t, d, shape)
		p.bytes = p.bytes[:n*api.Block]
		if n == 0 {
			continue
		}
		want, errno := check.Report{}, api.ErrSuper
		if n >= geo.Size(shape) {
			want, errno = standing(), api.OK
		}
		tells(t, fmt.Sprint("cut to ", n), p.disk(), want, errno)
	}
}

// P26.1: another shape than that of the volume, which is chosen, has its headers elsewhere.
func TestOtherShape(t *testing.T) {
	d, _ := planted(t)
	for _, g := range []api.Geo{{Group: 24, Inodes: 8, Groups: 2}, {Group: 24, Inodes: 12, Groups: 3}, {Group: 23, Inodes: 8, Groups: 3}, {Group: 24, Inodes: 4, Groups: 1}} {
		p := paperOf(t, d, shape)
		next, _ := super.Put(super.Super{Gen: 2, Geo: g})
		copy(p.at(0), next)
		errno, want := api.ErrForm, check.Report{}
		if g.Inodes == 8 && g.Group == 24 { // all stands in the first groups
			errno, want = api.OK, standing()
			want.Free -= 21
			want.Slots -= 8
		}
		tells(t, fmt.Sprint(g), p.disk(), want, errno)
	}
}

// P26.2: volumes that were formatted, of many shapes, on disks that are larger, too; and the example of the chapter.
func TestFormatted(t *testing.T) {
	d := formatted(t, 34, api.Geo{Group: 16, Inodes: 8, Groups: 2})
	tells(t, "the example", d, check.Report{Dirs: 1, Free: 26, Slots: 14}, api.OK)
	for _, g := range []api.Geo{{Group: 16, Inodes: 4, Groups: 1}, {Group: 16, Inodes: 44, Groups: 16}, {Group: 17, Inodes: 48, Groups: 3}, {Group: 128, Inodes: 64, Groups: 16}, {Group: 21, Inodes: 64, Groups: 1}} {
		want := check.Report{Dirs: 1, Free: g.Groups * (g.Group - 1 - g.Inodes/4), Slots: g.Groups*g.Inodes - 2}
		for _, more := range []int{0, 1, 200} {
			tells(t, fmt.Sprint(g), formatted(t, geo.Size(g)+more, g), want, api.OK)
		}
	}
}

// P26.1, P26.2: what is counted, when all is safe behind some calls.
func TestReport(t *testing.T) {
	d, _ := planted(t)
	want := standing()
	tells(t, "all", d, want, api.OK)
	f, _ := fs.Mount(d)
	s := sync.New(f)
	fd := 0
	for _, c := range []struct {
		name string
		call func() api.Errno
		turn func(r *check.Report)
	}{
		{"a directory more", func() api.Errno { return f.Mkdir("/b/d") }, func(r *check.Report) { r.Dirs++; r.Slots-- }},
		{"a file in it", func() api.Errno { return f.Create("/b/d/x") }, func(r *check.Report) { r.Files++; r.Blocks++; r.Free--; r.Slots-- }},
		{"one without blocks", func() api.Errno { return f.Create("/b/d/y") }, func(r *check.Report) { r.Files++; r.Slots-- }},
		{"a link", func() api.Errno { return f.Symlink("x", "/b/d/l") }, func(r *check.Report) { r.Links++; r.Blocks++; r.Free--; r.Slots-- }},
		{"a name", func() api.Errno { return f.Link("/b/d/l", "/b/d/m") }, func(*check.Report) {}},
		{"a name less", func() api.Errno { return f.Unlink("/b/d/l") }, func(*check.Report) {}},
		{"another name", func() api.Errno { return f.Rename("/b/d/x", "/b/d/z") }, func(*check.Report) {}},
		{"a directory that goes elsewhere", func() api.Errno { return f.Rename("/b/d", "/b/c/d") }, func(r *check.Report) { r.Blocks++; r.Free-- }},
		{"an open file", func() (e api.Errno) { fd, e = f.Open("/deep"); return e }, func(*check.Report) {}},
		{"bytes more", func() api.Errno { return f.Write(fd, 9*api.Block, make([]byte, 600)) }, func(r *check.Report) { r.Blocks += 3; r.Free -= 3 }},
		{"bytes less", func() api.Errno { return f.Truncate(fd, 71*api.Block) }, func(r *check.Report) { r.Blocks -= 3; r.Free += 3 }},
		{"bytes less by a part of a block", func() api.Errno { return f.Truncate(fd, 70*api.Block+12) }, func(*check.Report) {}},
		{"bytes more again", func() api.Errno { return f.Truncate(fd, 75*api.Block) }, func(*check.Report) {}},
		{"a closed file", func() api.Errno { return f.Close(fd) }, func(*check.Report) {}},
		{"a file less", func() api.Errno { return f.Unlink("/deep") }, func(r *check.Report) { r.Files--; r.Blocks -= 9; r.Free += 9; r.Slots++ }},
		{"a link less", func() api.Errno { return f.Unlink("/b/c/d/m") }, func(r *check.Report) { r.Links--; r.Blocks--; r.Free++; r.Slots++ }},
		{"the last but one in a directory", func() api.Errno { return f.Unlink("/b/c/d/y") }, func(r *check.Report) { r.Files--; r.Slots++ }},
		{"the last in a directory", func() api.Errno { return f.Unlink("/b/c/d/z") }, func(r *check.Report) { r.Files--; r.Slots++ }},
		{"a directory less", func() api.Errno { return f.Rmdir("/b/c/d") }, func(r *check.Report) { r.Dirs--; r.Blocks--; r.Free++; r.Slots++ }},
	} {
		answers(t, c.name, c.call(), api.OK)
		_, e := s.Sync()
		answers(t, "Sync", e, api.OK)
		c.turn(&want)
		tells(t, c.name, d, want, api.OK)
	}
}

// P26.2: what is open and has no name is one thing too many, till it is closed.
func TestOpen(t *testing.T) {
	d, _ := planted(t)
	f, _ := fs.Mount(d)
	s := sync.New(f)
	fd, e := f.Open("/deep")
	calls(t, e, f.Unlink("/deep"))
	s.Sync()
	tells(t, "open", d, check.Report{}, api.ErrForm)
	calls(t, f.Close(fd))
	tells(t, "closed, and that is not safe", d, check.Report{}, api.ErrForm)
	s.Sync()
	want := but(-9)
	want.Files--
	want.Slots++
	tells(t, "closed", d, want, api.OK)
}

// P26.1: blocks are as they are read, safe or not.
func TestUnsafe(t *testing.T) {
	d, x := planted(t)
	p := paperOf(t, d, shape)
	p.inode(x.empty, func(i *api.Inode) { i.Links++ })
	b, _, _ := geo.Place(shape, x.empty)
	was, _ := d.Read(b)
	d.Write(b, p.at(b))
	tells(t, "written over", d, check.Report{}, api.ErrForm)
	d.Write(b, was)
	tells(t, "written again", d, standing(), api.OK)
	d.Write(b, p.at(b))
	d.Crash(nil)
	tells(t, "behind a crash", d, standing(), api.OK)
	d.Stop(0)
	tells(t, "stopped", d, standing(), api.OK)
}

// P26.1: each header can be, and has its group's number.
func TestHeaders(t *testing.T) {
	no := func(k, no int) func(p *paper, x things) {
		return func(p *paper, _ things) {
			h := p.head(k)
			h.No = no
			if no == 0 {
				h.Slots[0] |= 3
			}
			p.setHead(k, h)
		}
	}
	edges := []edge{
		{name: "the header of the group 1 in the group 2", edit: no(2, 1)},
		{name: "the header of the group 2 in the group 1", edit: no(1, 2)},
		{name: "the header of the group 0 in the group 2", edit: no(2, 0)},
		{name: "the header of the group 1 in the group 0", edit: no(0, 1)},
		{name: "two headers that were changed for each other", edit: func(p *paper, x things) { no(1, 2)(p, x); no(2, 1)(p, x) }},
	}
	for k := range 3 {
		for _, at := range []int{0, 3, 5, 6, 8, 10, 15, 40, 255} {
			edges = append(edges, edge{name: fmt.Sprintf("the byte %d of the header %d", at, k), edit: func(p *paper, _ things) { p.at(2 + 24*k)[at]++ }})
		}
		edges = append(edges, edge{name: fmt.Sprint("no header ", k), edit: func(p *paper, _ things) { clear(p.at(2 + 24*k)) }})
	}
	held(t, edges)
}

// P26.1: each slot's inode can be; the slot 0 has none; the root's has a directory; each number is one thing's.
func TestInodes(t *testing.T) {
	edges := []edge{
		{name: "bytes behind an inode", edit: func(p *paper, _ things) { p.at(3)[127]++ }},
		{name: "bytes in a slot without a thing", edit: func(p *paper, _ things) { p.at(2 + 48 + 2)[200]++ }},
		{name: "a kind that is none", edit: func(p *paper, _ things) { p.at(3)[64] = 4 }},
		{name: "a thing in the slot 0", edit: func(p *paper, _ things) {
			p.inode(0, func(i *api.Inode) { *i = api.Inode{Kind: api.File, Id: 99} })
		}},
		{name: "a thing with a name in the slot 0", edit: func(p *paper, _ things) {
			p.inode(0, func(i *api.Inode) { *i = api.Inode{Kind: api.File, Links: 1, Id: 99} })
		}},
		{name: "no root", edit: func(p *paper, _ things) { p.inode(vol.Root, func(i *api.Inode) { *i = api.Inode{} }) }},
		{name: "a root that is a file", edit: func(p *paper, _ things) { p.inode(vol.Root, func(i *api.Inode) { i.Kind = api.File }) }},
		{name: "a root that is a link", edit: func(p *paper, _ things) {
			p.inode(vol.Root, func(i *api.Inode) { i.Kind, i.Size = api.Link, 9 })
		}},
		{name: "two files of one number", edit: func(p *paper, x things) {
			p.inode(x.empty, func(i *api.Inode) { i.Id = p.thing(x.f).Id })
		}},
		{name: "a directory and a link of one number", edit: func(p *paper, x things) {
			p.inode(x.l, func(i *api.Inode) { i.Id = p.thing(x.c).Id })
		}},
		{name: "a file with the root's number", edit: func(p *paper, x things) { p.inode(x.f, func(i *api.Inode) { i.Id = 1 }) }},
		{name: "the greatest number", edit: func(p *paper, x things) { p.inode(x.f, func(i *api.Inode) { i.Id = 1 << 62 }) }, want: standing()},
		{name: "a root of another number", edit: func(p *paper, x things) { p.inode(vol.Root, func(i *api.Inode) { i.Id = 77 }) }, want: standing()},
	}
	held(t, edges)
	for _, kind := range []int{api.Free, api.File, api.Link} { // of a volume in which nothing is named
		p := paperOf(t, formatted(t, 34, api.Geo{Group: 16, Inodes: 8, Groups: 2}), api.Geo{Group: 16, Inodes: 8, Groups: 2})
		p.inode(vol.Root, func(i *api.Inode) {
			if i.Kind = kind; kind == api.Free {
				*i = api.Inode{}
			} else {
				i.Size = int64(kind / api.Link)
			}
		})
		tells(t, fmt.Sprint("a root of the kind ", kind), p.disk(), check.Report{}, api.ErrForm)
	}
}

// field is where an inode has a name: of P, and behind them of In and Din.
func field(i *api.Inode, at int) *int {
	switch at {
	case api.Direct:
		return &i.In
	case api.Direct + 1:
		return &i.Din
	}
	return &i.P[at]
}

// lone gives the thing that is empty one block more by a place of its inode, and so much Size.
func lone(at int, size int64) func(p *paper, x things) {
	return func(p *paper, x things) {
		b := spare[0]
		clear(p.at(b))
		p.use(true, b)
		p.inode(x.empty, func(i *api.Inode) {
			i.Size = size
			*field(i, at) = b
		})
	}
}

// P26.1: no name stands behind the end of a thing: in the inode, in In's block, in Din's and in those that it names.
func TestBehindTheEnd(t *testing.T) {
	edges := []edge{}
	for at := range api.Direct {
		edges = append(edges,
			edge{name: fmt.Sprintf("a name at the place %d, at the end", at), edit: lone(at, int64(at)*api.Block)},
			edge{name: fmt.Sprintf("a name at the place %d, within", at), edit: lone(at, int64(at)*api.Block+1), want: but(1)},
			edge{name: fmt.Sprintf("a name at the place %d, of no bytes", at), edit: lone(at, 0)})
	}
	for _, c := range []struct {
		at, n int
	}{{6, api.Direct}, {7, api.Direct + api.Ptrs}} {
		edges = append(edges,
			edge{name: fmt.Sprintf("a block of names at the place %d, with nothing to name", c.at), edit: lone(c.at, int64(c.n)*api.Block)},
			edge{name: fmt.Sprintf("a block of names at the place %d, with one to name", c.at), edit: lone(c.at, int64(c.n)*api.Block+1), want: but(1)},
			edge{name: fmt.Sprintf("a block of names at the place %d, of no bytes", c.at), edit: lone(c.at, 0)},
			edge{name: fmt.Sprintf("a block of names at the place %d, of the greatest size", c.at), edit: lone(c.at, api.MaxFile*api.Block), want: but(1)})
	}
	for _, at := range []int{0, 1, 40, 63} {
		in := func(size int64) func(p *paper, x things) {
			return func(p *paper, x things) {
				lone(6, size)(p, x)
				p.use(true, spare[1])
				clear(p.at(spare[1]))
				p.call(spare[0], at, uint32(spare[1]))
			}
		}
		end := int64(api.Direct+at) * api.Block
		edges = append(edges,
			edge{name: fmt.Sprintf("a name at the place %d of In, at the end", at), edit: in(max(end, api.Direct*api.Block+1)), want: when(at == 0, but(2))},
			edge{name: fmt.Sprintf("a name at the place %d of In, within", at), edit: in(end + 1), want: but(2)})
		din := func(size int64) func(p *paper, x things) {
			return func(p *paper, x things) {
				lone(7, size)(p, x)
				p.use(true, spare[1])
				clear(p.at(spare[1]))
				p.call(spare[0], at, uint32(spare[1]))
			}
		}
		end = int64(api.Direct+api.Ptrs+at*api.Ptrs) * api.Block
		edges = append(edges,
			edge{name: fmt.Sprintf("a name at the place %d of Din, at the end", at), edit: din(max(end, (api.Direct+api.Ptrs)*api.Block+1)), want: when(at == 0, but(2))},
			edge{name: fmt.Sprintf("a name at the place %d of Din, within", at), edit: din(end + 1), want: but(2)})
		for _, below := range []int{0, 1, 63} {
			under := func(size int64) func(p *paper, x things) {
				return func(p *paper, x things) {
					din(size)(p, x)
					p.use(true, spare[2])
					clear(p.at(spare[2]))
					p.call(spare[1], below, uint32(spare[2]))
				}
			}
			last := end + int64(below)*api.Block
			edges = append(edges,
				edge{name: fmt.Sprintf("a name at the places %d, %d of Din, at the end", at, below), edit: under(max(last, end+1)), want: when(below == 0, but(3))},
				edge{name: fmt.Sprintf("a name at the places %d, %d of Din, within", at, below), edit: under(last + 1), want: but(3)})
		}
	}
	held(t, edges)
}

// when is a report, if something holds.
func when(holds bool, r check.Report) check.Report {
	if holds {
		return r
	}
	return check.Report{}
}

// P26.1: each name is 0 or a data block, as a whole number.
func TestNames(t *testing.T) {
	others := []int{1, 2, 3, 4, 2 + 24, 2 + 24 + 2, 2 + 48 + 1, geo.Size(shape), geo.Size(shape) + 4, geo.Size(shape) + 5, 1000, api.MaxBlocks - 1}
	var edges []edge
	for _, b := range others {
		edges = append(edges,
			edge{name: fmt.Sprintf("P names %d", b), edit: func(p *paper, x things) {
				p.inode(x.empty, func(i *api.Inode) { i.P[2], i.Size = b, 999 })
			}},
			edge{name: fmt.Sprintf("In is %d", b), edit: func(p *paper, x things) {
				p.inode(x.empty, func(i *api.Inode) { i.In, i.Size = b, 7*api.Block })
			}},
			edge{name: fmt.Sprintf("Din is %d", b), edit: func(p *paper, x things) {
				p.inode(x.empty, func(i *api.Inode) { i.Din, i.Size = b, 77*api.Block })
			}})
	}
	wide := []uint32{1 << 31, 1 << 30, 1<<31 | 7, 1 << 16, 1 << 24, math.MaxUint32, uint32(api.MaxBlocks), uint32(api.MaxBlocks + spare[0]), 1<<31 | uint32(spare[0]), 1<<16 | uint32(spare[0])}
	for _, b := range others {
		wide = append(wide, uint32(b))
	}
	for _, name := range wide {
		edges = append(edges,
			edge{name: fmt.Sprintf("In names %d", name), edit: func(p *paper, x things) { p.call(p.thing(x.deep).In, 40, name) }},
			edge{name: fmt.Sprintf("Din names %d", name), edit: func(p *paper, x things) { p.call(p.thing(x.deep).Din, 0, name) }},
			edge{name: fmt.Sprintf("what Din names names %d", name), edit: func(p *paper, x things) { p.call(p.called(p.thing(x.deep).Din, 2), 0, name) }})
	}
	held(t, edges)
}

// P26.1: a high bit upon a name that is right, of a block of which one more may be set.
func TestHighBits(t *testing.T) {
	var edges []edge
	for bit := range 32 {
		edges = append(edges, edge{name: fmt.Sprint("the bit ", bit), edit: func(p *paper, x things) {
			in := p.thing(x.deep).In
			p.call(in, 2, uint32(p.called(in, 2))^1<<bit)
		}})
	}
	held(t, edges)
}

// P26.1: a block is named once, by whatever things, in whatever way.
func TestTwice(t *testing.T) {
	d, x := planted(t)
	p := paperOf(t, d, shape)
	deep := p.thing(x.deep)
	under := p.called(deep.Din, 0)
	owned := map[string]int{
		"a file's block": p.thing(x.f).P[1], "a directory's": p.thing(x.a).P[1], "the root's": p.thing(vol.Root).P[0], "a link's": p.thing(x.l).P[0],
		"In": deep.In, "what In names": p.called(deep.In, 2), "Din": deep.Din, "what Din names": under, "what that names": p.called(under, 0),
	}
	ways := map[string]func(p *paper, b int){
		"its P":                func(p *paper, b int) { p.inode(x.deep, func(i *api.Inode) { i.P[0] = b }) },
		"the P of another one": func(p *paper, b int) { p.inode(x.empty, func(i *api.Inode) { i.P[0], i.Size = b, api.Block }) },
		"P of the one ahead": func(p *paper, b int) {
			p.inode(x.f, func(i *api.Inode) { i.P[2], i.Size = b, 3*api.Block })
		},
		"In":             func(p *paper, b int) { p.call(deep.In, 63, uint32(b)) },
		"what Din names": func(p *paper, b int) { p.call(under, 63, uint32(b)) },
		"Din":            func(p *paper, b int) { p.call(deep.Din, 1, uint32(b)) },
		"In of another one": func(p *paper, b int) {
			p.inode(x.empty, func(i *api.Inode) { i.In, i.Size = b, 70*api.Block })
		},
		"Din of another one": func(p *paper, b int) {
			p.inode(x.empty, func(i *api.Inode) { i.Din, i.Size = b, api.MaxFile*api.Block })
		},
	}
	for what, b := range owned {
		for way, name := range ways {
			p := paperOf(t, d, shape)
			name(p, b)
			tells(t, what+" is named by "+way+", too", p.disk(), check.Report{}, api.ErrForm)
		}
	}
	for way, name := range ways { // of a block that is free it is but the map that is wrong
		p := paperOf(t, d, shape)
		clear(p.at(spare[0]))
		name(p, spare[0])
		tells(t, "a free block is named by "+way, p.disk(), check.Report{}, api.ErrForm)
		p.use(true, spare[0])
		tells(t, "a block is named by "+way, p.disk(), but(1), api.OK)
	}
}

// P26.1: one thing names a block twice: at any two places of the inode, of a block of names, in one of names and in the inode.
func TestTwiceInOne(t *testing.T) {
	var edges []edge
	for a := range 8 {
		for b := range a {
			edges = append(edges, edge{name: fmt.Sprintf("the places %d and %d of an inode", b, a), edit: func(p *paper, x things) {
				lone(b, api.MaxFile*api.Block)(p, x)
				p.inode(x.empty, func(i *api.Inode) { *field(i, a) = spare[0] })
			}})
		}
	}
	edges = append(edges,
		edge{name: "two places of In", edit: func(p *paper, x things) {
			in := p.thing(x.deep).In
			p.call(in, 9, uint32(p.called(in, 2)))
		}},
		edge{name: "two places of Din", edit: func(p *paper, x things) {
			din := p.thing(x.deep).Din
			p.call(din, 1, uint32(p.called(din, 0)))
		}},
		edge{name: "two blocks that Din names", edit: func(p *paper, x things) {
			din := p.thing(x.deep).Din
			p.call(p.called(din, 2), 0, uint32(p.called(p.called(din, 0), 1)))
		}},
		edge{name: "In, that names itself", edit: func(p *paper, x things) {
			in := p.thing(x.deep).In
			p.call(in, 9, uint32(in))
		}},
		edge{name: "Din, that names itself", edit: func(p *paper, x things) {
			din := p.thing(x.deep).Din
			p.call(din, 1, uint32(din))
		}},
		edge{name: "Din, that names nothing but itself", edit: func(p *paper, x things) {
			for at := range api.Ptrs {
				p.call(p.thing(x.deep).Din, at, uint32(p.thing(x.deep).Din))
			}
		}},
	)
	held(t, edges)
}

// P26.1: bytes of a file or a link behind its Size, in its last block, are 0; ahead of it, and where there is no block, they may be any.
func TestBehindTheSize(t *testing.T) {
	var edges []edge
	for _, at := range []int{300 - 256, 300 - 256 + 1, 200, 255} {
		edges = append(edges, edge{name: fmt.Sprint("a file's byte ", at), edit: func(p *paper, x things) { p.at(p.thing(x.f).P[1])[at] = 1 }})
	}
	for _, at := range []int{3, 4, 100, 255} {
		edges = append(edges, edge{name: fmt.Sprint("a link's byte ", at), edit: func(p *paper, x things) { p.at(p.thing(x.l).P[0])[at] = 0x80 }})
	}
	for _, at := range []int{13, 255} {
		edges = append(edges, edge{name: fmt.Sprint("the byte of a block behind Din ", at), edit: func(p *paper, x things) {
			p.at(p.called(p.called(p.thing(x.deep).Din, 2), 1))[at] = 1
		}})
	}
	edges = append(edges,
		edge{name: "a file's last byte", edit: func(p *paper, x things) { p.at(p.thing(x.f).P[1])[300-257] = 9 }, want: standing()},
		edge{name: "a file's first block", edit: func(p *paper, x things) { p.at(p.thing(x.f).P[0])[255] = 9 }, want: standing()},
		edge{name: "a block by In", edit: func(p *paper, x things) { p.at(p.called(p.thing(x.deep).In, 2))[255] = 9 }, want: standing()},
		edge{name: "a link's bytes", edit: func(p *paper, x things) { clear(p.at(p.thing(x.l).P[0])[:3]) }, want: standing()},
		edge{name: "one byte less", edit: func(p *paper, x things) { p.inode(x.f, func(i *api.Inode) { i.Size-- }) }},
		edge{name: "one byte more", edit: func(p *paper, x things) { p.inode(x.f, func(i *api.Inode) { i.Size++ }) }, want: standing()},
		edge{name: "a last block that is whole", edit: func(p *paper, x things) {
			p.inode(x.f, func(i *api.Inode) { i.Size = 2 * api.Block })
			p.at(p.thing(x.f).P[1])[255] = 1
		}, want: standing()},
		edge{name: "a last block that is not the last one that is there", edit: func(p *paper, x things) {
			p.inode(x.f, func(i *api.Inode) { i.Size = 2*api.Block + 1 })
			p.at(p.thing(x.f).P[1])[255] = 1
		}, want: standing()},
		edge{name: "a link of one byte", edit: func(p *paper, x things) { p.inode(x.l, func(i *api.Inode) { i.Size = 1 }) }},
		edge{name: "a link that is a hole", edit: func(p *paper, x things) {
			p.use(false, p.thing(x.l).P[0])
			p.inode(x.l, func(i *api.Inode) { i.P[0] = 0 })
		}, want: but(-1)},
	)
	held(t, edges)
}

// P26.1: each place of a directory's blocks is empty, or an entry that can be.
func TestEntries(t *testing.T) {
	root := func(p *paper) []byte { return p.at(p.thing(vol.Root).P[0]) }
	edges := []edge{
		{name: "an entry that is Leaving", edit: func(p *paper, x things) { p.turn(vol.Root, "a", func(e *api.Entry) { e.Leaving = true }) }},
		{name: "a file's entry that is Leaving", edit: func(p *paper, x things) { p.turn(x.a, "f", func(e *api.Entry) { e.Leaving = true }) }},
		{name: "a slot without a thing", edit: func(p *paper, x things) { p.add(vol.Root, "z", 20) }},
		{name: "a slot that is not there", edit: func(p *paper, x things) { p.add(vol.Root, "z", 24) }},
		{name: "the last slot of all", edit: func(p *paper, x things) { p.add(vol.Root, "z", 1023) }},
		{name: "the root", edit: func(p *paper, x things) { p.add(x.b, "z", vol.Root) }},
		{name: "the root, that has a name", edit: func(p *paper, x things) {
			p.add(x.b, "z", vol.Root)
			p.inode(vol.Root, func(i *api.Inode) { i.Links = 2 })
		}},
		{name: "the root in itself", edit: func(p *paper, x things) { p.add(vol.Root, "z", vol.Root) }},
		{name: "two of one name", edit: func(p *paper, x things) {
			p.turn(x.a, "1", func(e *api.Entry) { e.Name = "2" })
		}},
		{name: "two of one name of two things", edit: func(p *paper, x things) {
			p.turn(x.a, "1", func(e *api.Entry) { e.Name = "f" })
		}},
		{name: "two of one name in two blocks", edit: func(p *paper, x things) {
			b := p.thing(x.a).P[1]
			e, _ := dirent.Read(p.at(b), 0)
			e.Name = "f"
			p.entry(b, 0, e)
		}},
		{name: "one name in two directories", edit: func(p *paper, x things) {
			p.turn(x.a, "1", func(e *api.Entry) { e.Name = "deep" })
		}, want: standing()},
		{name: "names that one begins the other", edit: func(p *paper, x things) {
			p.turn(x.a, "1", func(e *api.Entry) { e.Name = "ff" })
		}, want: standing()},
		{name: "the longest name", edit: func(p *paper, x things) {
			p.turn(x.a, "1", func(e *api.Entry) { e.Name = strings.Repeat("\xff", api.MaxName) })
		}, want: standing()},
		{name: "a name behind a hole in a block", edit: func(p *paper, x things) {
			b, at := p.place(x.a, "1")
			e, _ := dirent.Read(p.at(b), at)
			p.entry(b, at, api.Entry{})
			p.entry(p.thing(x.a).P[1], 7, e)
		}, want: standing()},
		{name: "a directory with a block of nothing", edit: func(p *paper, x things) {
			clear(p.at(spare[0]))
			p.use(true, spare[0])
			p.inode(x.c, func(i *api.Inode) { i.Size, i.P[0] = api.Block, spare[0] })
		}, want: but(1)},
		{name: "a directory with a hole", edit: func(p *paper, x things) {
			p.inode(x.a, func(i *api.Inode) { i.Size, i.P[1], i.P[3] = 5*api.Block, 0, i.P[1] })
		}, want: standing()},
		{name: "a directory of holes alone", edit: func(p *paper, x things) {
			p.inode(x.c, func(i *api.Inode) { i.Size = api.MaxFile * api.Block })
		}, want: standing()},
		{name: "a directory's block by In, with a Leaving entry", edit: func(p *paper, x things) {
			b := p.thing(x.a).P[1]
			in := spare[0]
			clear(p.at(in))
			p.use(true, in)
			p.call(in, 63, uint32(b))
			p.inode(x.a, func(i *api.Inode) { i.Size, i.P[1], i.In = 70*api.Block, 0, in })
			e, _ := dirent.Read(p.at(b), 0)
			e.Leaving = true
			p.entry(b, 0, e)
		}},
		{name: "a directory's block by In", edit: func(p *paper, x things) {
			b := p.thing(x.a).P[1]
			in := spare[0]
			clear(p.at(in))
			p.use(true, in)
			p.call(in, 63, uint32(b))
			p.inode(x.a, func(i *api.Inode) { i.Size, i.P[1], i.In = 70*api.Block, 0, in })
		}, want: but(1)},
	}
	for place := 5; place < api.PerDir; place++ {
		for at := range api.EntrySize {
			edges = append(edges, edge{name: fmt.Sprintf("the byte %d of the empty place %d", at, place), edit: func(p *paper, x things) { root(p)[place*api.EntrySize+at] = 1 }})
		}
	}
	for _, c := range []struct {
		at int
		to byte
	}{{0, 0}, {0, 1}, {1, 1}, {2, 2}, {3, 0}, {3, 2}, {3, 25}, {4, 0}, {4, '/'}, {4, '.'}, {5, 'x'}, {31, 1}} {
		edges = append(edges, edge{name: fmt.Sprintf("the byte %d of an entry is %d", c.at, c.to), edit: func(p *paper, x things) { root(p)[c.at] = c.to }})
	}
	held(t, edges)
}

// P26.1: directories are named once, and can be come to; files and links are named; Links says how often.
func TestLinks(t *testing.T) {
	var edges []edge
	links := func(name string, slot func(x things) int) {
		for _, by := range []int{-1, 1, 100} {
			edges = append(edges, edge{name: fmt.Sprintf("%d more links of %s", by, name), edit: func(p *paper, x things) {
				p.inode(slot(x), func(i *api.Inode) { i.Links += by })
			}})
		}
	}
	links("a file", func(x things) int { return x.f })
	links("a file of one name", func(x things) int { return x.deep })
	links("a link", func(x things) int { return x.l })
	links("a directory", func(x things) int { return x.b })
	links("the root", func(things) int { return vol.Root })
	edges = append(edges,
		edge{name: "a name less of a file with two", edit: func(p *paper, x things) {
			b, at := p.place(x.a, "f")
			p.entry(b, at, api.Entry{})
		}},
		edge{name: "a name less, and one link less", edit: func(p *paper, x things) {
			b, at := p.place(x.a, "f")
			p.entry(b, at, api.Entry{})
			p.inode(x.f, func(i *api.Inode) { i.Links-- })
		}, want: standing()},
		edge{name: "a name more", edit: func(p *paper, x things) { p.add(vol.Root, "z", x.l) }},
		edge{name: "a name more, and one link more", edit: func(p *paper, x things) {
			p.add(vol.Root, "z", x.l)
			p.inode(x.l, func(i *api.Inode) { i.Links++ })
		}, want: standing()},
		edge{name: "a file without a name", edit: func(p *paper, x things) {
			b, at := p.place(vol.Root, "deep")
			p.entry(b, at, api.Entry{})
		}},
		edge{name: "a file without a name or a link", edit: func(p *paper, x things) {
			b, at := p.place(vol.Root, "deep")
			p.entry(b, at, api.Entry{})
			p.inode(x.deep, func(i *api.Inode) { i.Links = 0 })
		}},
		edge{name: "a link without a name or a link", edit: func(p *paper, x things) {
			b, at := p.place(vol.Root, "l")
			p.entry(b, at, api.Entry{})
			p.inode(x.l, func(i *api.Inode) { i.Links = 0 })
		}},
		edge{name: "a directory without a name or a link", edit: func(p *paper, x things) {
			b, at := p.place(x.b, "c")
			p.entry(b, at, api.Entry{})
			p.inode(x.c, func(i *api.Inode) { i.Links = 0 })
		}},
		edge{name: "a directory without a name", edit: func(p *paper, x things) {
			b, at := p.place(x.b, "c")
			p.entry(b, at, api.Entry{})
		}},
		edge{name: "a directory that is named twice", edit: func(p *paper, x things) { p.add(vol.Root, "z", x.c) }},
		edge{name: "a directory that is named twice, with two links", edit: func(p *paper, x things) {
			p.add(vol.Root, "z", x.c)
			p.inode(x.c, func(i *api.Inode) { i.Links = 2 })
		}},
		edge{name: "a directory that is named twice in one, with two links", edit: func(p *paper, x things) {
			p.add(x.b, "z", x.c)
			p.inode(x.c, func(i *api.Inode) { i.Links = 2 })
		}},
		edge{name: "a directory that names itself, too, with two links", edit: func(p *paper, x things) {
			p.add(x.b, "z", x.b)
			p.inode(x.b, func(i *api.Inode) { i.Links = 2 })
		}},
		edge{name: "a directory that is named by itself alone", edit: func(p *paper, x things) {
			b, at := p.place(vol.Root, "b")
			p.entry(b, at, api.Entry{})
			p.add(x.b, "z", x.b)
		}},
		edge{name: "a directory that is named by the one below it alone", edit: func(p *paper, x things) {
			b, at := p.place(vol.Root, "b")
			p.entry(b, at, api.Entry{})
			clear(p.at(spare[0]))
			p.use(true, spare[0])
			p.inode(x.c, func(i *api.Inode) { i.Size, i.P[0] = api.Block, spare[0] })
			p.add(x.c, "z", x.b)
		}},
		edge{name: "a directory that went below another one", edit: func(p *paper, x things) {
			b, at := p.place(vol.Root, "b")
			p.entry(b, at, api.Entry{})
			clear(p.at(p.thing(x.a).P[1])[7*api.EntrySize:])
			p.entry(p.thing(x.a).P[1], 7, api.Entry{Slot: x.b, Name: "b"})
		}, want: standing()},
	)
	held(t, edges)
}

// P26.1: a slot is set just if it has a thing, a block just if it is named, in each group.
func TestMaps(t *testing.T) {
	edges := []edge{
		{name: "a thing's slot that is not set", edit: func(p *paper, x things) { p.useSlot(false, x.f) }},
		{name: "a link's slot that is not set", edit: func(p *paper, x things) { p.useSlot(false, x.l) }},
		{name: "a block of bytes that is not set", edit: func(p *paper, x things) { p.use(false, p.thing(x.f).P[1]) }},
		{name: "In that is not set", edit: func(p *paper, x things) { p.use(false, p.thing(x.deep).In) }},
		{name: "Din that is not set", edit: func(p *paper, x things) { p.use(false, p.thing(x.deep).Din) }},
		{name: "what Din names that is not set", edit: func(p *paper, x things) { p.use(false, p.called(p.thing(x.deep).Din, 2)) }},
		{name: "a block that is set for another one", edit: func(p *paper, x things) { p.use(false, p.thing(x.f).P[1]); p.use(true, spare[0]) }},
		{name: "a slot that is set for another one", edit: func(p *paper, x things) { p.useSlot(false, x.l); p.useSlot(true, 12) }},
		{name: "a thing's slot, and its blocks, that are not set", edit: func(p *paper, x things) {
			p.useSlot(false, x.f)
			p.use(false, p.thing(x.f).P[0], p.thing(x.f).P[1])
		}},
	}
	for k := range 3 {
		for _, n := range []int{20, 19, 17} {
			edges = append(edges, edge{name: fmt.Sprintf("the block %d of the group %d that is set", n, k), edit: func(p *paper, _ things) { p.use(true, block(k, n)) }})
		}
	}
	for _, slot := range []int{9, 15, 16, 23} {
		edges = append(edges, edge{name: fmt.Sprintf("the slot %d that is set", slot), edit: func(p *paper, _ things) { p.useSlot(true, slot) }})
	}
	for _, slot := range []int{9, 15, 16, 17, 23} {
		goes := func(p *paper, x things) {
			i := p.thing(x.deep)
			p.inode(slot, func(j *api.Inode) { *j = i })
			p.inode(x.deep, func(j *api.Inode) { *j = api.Inode{} })
			p.turn(vol.Root, "deep", func(e *api.Entry) { e.Slot = slot })
			p.useSlot(false, x.deep)
		}
		edges = append(edges,
			edge{name: fmt.Sprintf("a thing that went to the slot %d, which is not set", slot), edit: goes},
			edge{name: fmt.Sprintf("a thing that went to the slot %d", slot), edit: func(p *paper, x things) {
				goes(p, x)
				p.useSlot(true, slot)
			}, want: standing()})
	}
	held(t, edges)
}
