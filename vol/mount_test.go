package vol_test

import (
	"bytes"
	"math"
	"testing"

	"levee/api"
	"levee/disk"
	"levee/geo"
	"levee/group"
	"levee/inode"
	"levee/super"
	"levee/vol"
)

// example is the chapter's shape.
var example = api.Geo{Group: 16, Inodes: 8, Groups: 2}

// root is the inode of a new volume's root.
var root = api.Inode{Kind: api.Dir, Links: 1, Id: 1}

// shapes are some that can be: the least, the greatest, and those of few data blocks.
var shapes = []api.Geo{
	{Group: 16, Inodes: 4, Groups: 1},
	{Group: 16, Inodes: 44, Groups: 1},
	{Group: 16, Inodes: 8, Groups: 2},
	{Group: 17, Inodes: 12, Groups: 3},
	{Group: 128, Inodes: 64, Groups: 16},
	{Group: 128, Inodes: 4, Groups: 2},
}

// wrong are shapes that can not be.
var wrong = []api.Geo{
	{},
	{Group: 15, Inodes: 8, Groups: 2},
	{Group: 129, Inodes: 8, Groups: 2},
	{Group: 16, Inodes: 0, Groups: 2},
	{Group: 16, Inodes: 6, Groups: 2},
	{Group: 16, Inodes: 48, Groups: 2},
	{Group: 16, Inodes: 8, Groups: 0},
	{Group: 16, Inodes: 8, Groups: -1},
	{Group: 16, Inodes: 8, Groups: 17},
	{Group: 16, Inodes: 8, Groups: math.MaxInt},
	{Group: 16, Inodes: 8, Groups: math.MinInt},
	{Group: math.MaxInt, Inodes: math.MaxInt, Groups: math.MaxInt},
	{Group: math.MinInt, Inodes: math.MinInt, Groups: math.MinInt},
}

func answers(t *testing.T, what string, got, want api.Errno) {
	t.Helper()
	if got != want {
		t.Errorf("%s: %d, not %d", what, got, want)
	}
}

// scrawl is a block that can be nothing.
func scrawl(b int) []byte {
	data := make([]byte, api.Block)
	for i := range data {
		data[i] = byte(1 + (b*31+i)%255)
	}
	return data
}

// scrawled is a disk of n blocks of which none can be anything.
func scrawled(t *testing.T, n int) *disk.Disk {
	t.Helper()
	var all []byte
	for b := range n {
		all = append(all, scrawl(b)...)
	}
	d, e := disk.Load(all)
	if e != api.OK {
		t.Fatal("Load", e)
	}
	return d
}

// formatted is a disk of n blocks with a volume.
func formatted(t *testing.T, n int, g api.Geo) *disk.Disk {
	t.Helper()
	d, _ := disk.New(n)
	if e := vol.Format(d, g); e != api.OK {
		t.Fatalf("Format(%v): %d", g, e)
	}
	return d
}

func mounted(t *testing.T, d *disk.Disk) *vol.Vol {
	t.Helper()
	v, e := vol.Mount(d)
	if e != api.OK || v == nil {
		t.Fatal("Mount", v, e)
	}
	return v
}

// lay writes a block of a disk safely.
func lay(t *testing.T, d *disk.Disk, b int, data []byte) {
	t.Helper()
	answers(t, "Write", d.Write(b, data), api.OK)
	d.Flush()
}

// layInode writes a slot's inode into its table.
func layInode(t *testing.T, d *disk.Disk, g api.Geo, slot int, i api.Inode) {
	t.Helper()
	b, place, _ := geo.Place(g, slot)
	data, _ := d.Read(b)
	data, e := inode.Lay(data, place, i)
	answers(t, "Lay", e, api.OK)
	lay(t, d, b, data)
}

// laySuper writes a superblock at its place.
func laySuper(t *testing.T, d *disk.Disk, s super.Super) {
	t.Helper()
	data, e := super.Put(s)
	answers(t, "Put", e, api.OK)
	lay(t, d, int(s.Gen%2), data)
}

// first is what chapter 13 wants in a block of a new volume; nil of a block that stays.
func first(t *testing.T, g api.Geo, b int) []byte {
	t.Helper()
	data := make([]byte, api.Block)
	switch kind, k := geo.Kind(g, b); kind {
	case geo.Super:
		if b == 1 {
			data, _ = super.Put(super.Super{Gen: 1, Geo: g})
		}
	case geo.Header:
		h, _ := group.Fresh(g, k)
		data, _ = group.Put(g, h)
	case geo.Table:
		if b == 3 {
			copy(data[64:], []byte{2, 0, 1, 0, 0, 0, 0, 0, 1})
		}
	default:
		return nil
	}
	return data
}

// P13.1: both superblocks, the headers, the tables with the root; data blocks, and blocks behind the volume, stay.
func TestFormat(t *testing.T) {
	for _, g := range shapes {
		for _, more := range []int{0, 1, 7} {
			n := geo.Size(g) + more
			d := scrawled(t, n)
			answers(t, "Format", vol.Format(d, g), api.OK)
			for b := range n {
				want := first(t, g, b)
				if want == nil {
					want = scrawl(b)
				}
				if got, _ := d.Safe(b); !bytes.Equal(got, want) {
					t.Errorf("%v: block %d is %x, not %x", g, b, got, want)
				}
			}
			if len(d.Open()) != 0 {
				t.Error("written and not flushed", d.Open())
			}
		}
	}
}

// P13.1: of a volume that stands there nothing is left.
func TestFormatAgain(t *testing.T) {
	d := formatted(t, 60, example)
	v := mounted(t, d)
	v.SetInode(2, api.Inode{Kind: api.File, Links: 1, Id: 70})
	v.Prepare(api.Geo{Group: 16, Inodes: 8, Groups: 3})
	v.Switch(api.Geo{Group: 16, Inodes: 8, Groups: 3})
	small := api.Geo{Group: 20, Inodes: 4, Groups: 2}
	answers(t, "Format", vol.Format(d, small), api.OK)
	v = mounted(t, d)
	if id, _ := v.NewId(); v.Geo() != small || v.Gen() != 1 || id != 2 {
		t.Error("Format again", v.Geo(), v.Gen(), id)
	}
}

// P13.1: no disk, then a shape that can not be, then too few blocks; what is refused changes nothing.
func TestFormatRefused(t *testing.T) {
	for _, g := range append(wrong, shapes...) {
		answers(t, "Format(nil)", vol.Format(nil, g), api.ErrNil)
		answers(t, "Format of the empty disk", vol.Format(new(disk.Disk), g), map[bool]api.Errno{true: api.ErrSize, false: api.ErrArg}[geo.Right(g)])
	}
	for _, g := range wrong {
		for _, n := range []int{1, 34, 4096} {
			d := scrawled(t, n)
			answers(t, "Format of a wrong shape", vol.Format(d, g), api.ErrArg)
			if !bytes.Equal(d.Bytes(), scrawled(t, n).Bytes()) || len(d.Open()) != 0 {
				t.Error("a refused Format wrote")
			}
		}
	}
	for _, g := range shapes {
		for _, n := range []int{1, 2, geo.Size(g) - 1} {
			d := scrawled(t, n)
			answers(t, "Format of a small disk", vol.Format(d, g), api.ErrSize)
			if !bytes.Equal(d.Bytes(), scrawled(t, n).Bytes()) || len(d.Open()) != 0 {
				t.Error("a refused Format wrote")
			}
		}
	}
}

// P13.1: the old superblocks are safely gone ahead of all else, and the new one comes behind all else: wherever the power goes, no half volume is mounted.
func TestFormatPowerCut(t *testing.T) {
	old := api.Geo{Group: 24, Inodes: 4, Groups: 2}
	parts := 1 + example.Inodes/4
	calls := 2 + 1 + example.Groups*parts + 1 + 1 + 1
	for stop := range calls + 2 {
		for pick := range 3 {
			d := formatted(t, 60, old)
			d.Stop(stop)
			answers(t, "Format", vol.Format(d, example), api.OK)
			picks := make([]int, 60)
			for i := range picks {
				picks[i] = []int{0, 1, i % 2}[pick]
			}
			d.Crash(picks)
			v, e := vol.Mount(d)
			switch {
			case stop >= calls && (e != api.OK || v.Geo() != example):
				t.Errorf("Stop(%d), pick %d: Format ended, and Mount: %d, %v", stop, pick, e, v.Geo())
			case stop >= 3 && stop < calls-1 && e != api.ErrSuper:
				t.Errorf("Stop(%d), pick %d: Mount of half a volume: %d", stop, pick, e)
			case stop < 3 && e != api.ErrSuper && (e != api.OK || v.Geo() != old):
				t.Errorf("Stop(%d), pick %d: %d, %v", stop, pick, e, v.Geo())
			case stop == calls-1 && e != api.ErrSuper && (e != api.OK || v.Geo() != example):
				t.Errorf("Stop(%d), pick %d: %d, %v", stop, pick, e, v.Geo())
			}
		}
	}
}

// P13.6, and the chapter's example: what is formatted is mounted, with a store of as many blocks as the disk, no changes and no work; the disk is not changed.
func TestMount(t *testing.T) {
	for _, g := range shapes {
		d := formatted(t, geo.Size(g)+3, g)
		before := d.Bytes()
		v := mounted(t, d)
		if v.Geo() != g || v.Gen() != 1 || v.Work().Len() != 0 || v.Store().Open() != 0 || v.Store().Len() != d.Len() {
			t.Errorf("%v: %v, %d", g, v.Geo(), v.Gen())
		}
		if i, e := v.Inode(vol.Root); i != root || e != api.OK {
			t.Error("the root", i, e)
		}
		for slot := range geo.Slots(g) {
			if i, e := v.Inode(slot); slot != vol.Root && (i != (api.Inode{}) || e != api.OK) {
				t.Errorf("Inode(%d): %v, %d", slot, i, e)
			}
		}
		for k := range g.Groups {
			h, e := v.Head(k)
			if want, _ := group.Fresh(g, k); h != want || e != api.OK {
				t.Errorf("Head(%d): %v, %d", k, h, e)
			}
		}
		if id, e := v.NewId(); id != 2 || e != api.OK {
			t.Error("NewId", id, e)
		}
		if !bytes.Equal(d.Bytes(), before) || len(d.Open()) != 0 {
			t.Error("Mount wrote")
		}
		if v.Store() != v.Store() || v.Work() != v.Work() || v.Work() == mounted(t, d).Work() {
			t.Error("a volume has one store and one work of its own")
		}
	}
}

// P13.2: all blocks of the disk may have open changes at once.
func TestStoreHoldsAll(t *testing.T) {
	d := formatted(t, 40, example)
	v := mounted(t, d)
	for b := range 40 {
		if id, e := v.Store().Patch(b, 0, []byte("x")); id != int64(b+1) || e != api.OK {
			t.Errorf("Patch(%d): %d, %d", b, id, e)
		}
	}
}

// P13.2: no disk, and superblocks none of which can be chosen; a disk of one block, too, whatever stands there.
func TestNoSuper(t *testing.T) {
	none := func(what string, d *disk.Disk, want api.Errno) {
		t.Helper()
		if v, e := vol.Mount(d); v != nil || e != want {
			t.Errorf("%s: %v, %d", what, v, e)
		}
	}
	none("Mount of no disk", nil, api.ErrNil)
	none("Mount of the empty disk", new(disk.Disk), api.ErrSuper)
	even, _ := super.Put(super.Super{Gen: 2, Geo: example})
	one, _ := disk.Load(even)
	none("Mount of a disk of one block", one, api.ErrSuper)
	two, _ := disk.Load(append(even, even...))
	none("Mount of a disk of two blocks", two, api.ErrSuper)
	for _, n := range []int{1, 2, 34, 4096} {
		d, _ := disk.New(n)
		none("Mount of bytes 0", d, api.ErrSuper)
		none("Mount of any bytes", scrawled(t, n), api.ErrSuper)
	}
	full := formatted(t, 34, example)
	short, _ := disk.Load(full.Bytes()[:33*api.Block])
	none("Mount of a volume that ends behind the disk", short, api.ErrSuper)
	place, _ := full.Read(1)
	lay(t, full, 0, place)
	lay(t, full, 1, scrawl(1))
	none("Mount of a superblock at the other place", full, api.ErrSuper)
	place[100] ^= 1
	lay(t, full, 1, place)
	none("Mount of a broken superblock", full, api.ErrSuper)
}

// P13.2: the newer superblock holds; the older one, if that can not be.
func TestNewerSuper(t *testing.T) {
	d := formatted(t, 60, example)
	one := api.Geo{Group: 16, Inodes: 8, Groups: 1}
	laySuper(t, d, super.Super{Gen: 8, Geo: one})
	if v := mounted(t, d); v.Geo() != one || v.Gen() != 8 {
		t.Error("the newer one", v.Geo(), v.Gen())
	}
	laySuper(t, d, super.Super{Gen: 10, Geo: api.Geo{Group: 16, Inodes: 8, Groups: 16}})
	if v := mounted(t, d); v.Geo() != example || v.Gen() != 1 {
		t.Error("one that the disk has no room for", v.Geo(), v.Gen())
	}
	lay(t, d, 0, scrawl(0))
	if v := mounted(t, d); v.Geo() != example || v.Gen() != 1 {
		t.Error("a broken one", v.Geo(), v.Gen())
	}
}

// P13.2: a header that can not be, or is another group's; a root that is not there, or is no directory.
func TestNotFormed(t *testing.T) {
	three := api.Geo{Group: 16, Inodes: 8, Groups: 3}
	form := func(what string, spoil func(d *disk.Disk)) {
		t.Helper()
		d := formatted(t, 60, three)
		spoil(d)
		before := d.Bytes()
		if v, e := vol.Mount(d); v != nil || e != api.ErrForm {
			t.Errorf("%s: %v, %d", what, v, e)
		}
		if !bytes.Equal(d.Bytes(), before) {
			t.Errorf("%s: a refused Mount wrote", what)
		}
	}
	for k := range three.Groups {
		at, _ := geo.Head(three, k)
		for _, i := range []int{0, 3, 4, 6, 8, 10, 15, 16, 31, 32, 39, 40, 63, 64, 255} {
			form("a byte of a header", func(d *disk.Disk) {
				data, _ := d.Read(at)
				data[i] ^= 0x81
				lay(t, d, at, data)
			})
		}
		form("a header of bytes 0", func(d *disk.Disk) { lay(t, d, at, make([]byte, api.Block)) })
		form("another group's header", func(d *disk.Disk) {
			other, _ := geo.Head(three, (k+1)%three.Groups)
			data, _ := d.Read(other)
			lay(t, d, at, data)
		})
	}
	for _, i := range []api.Inode{
		{},
		{Kind: api.File, Links: 1, Id: 1},
		{Kind: api.Link, Links: 1, Id: 1, Size: 1},
	} {
		form("a root that is no directory", func(d *disk.Disk) { layInode(t, d, three, vol.Root, i) })
	}
	for _, i := range []int{64, 65, 67, 79, 100, 127} {
		form("a root that can not be", func(d *disk.Disk) {
			data, _ := d.Read(3)
			data[i] = 0xff
			lay(t, d, 3, data)
		})
	}
}

// P13.2: what else stands in tables, and in data blocks, is no reason to refuse; a root of any number and size is one.
func TestStillFormed(t *testing.T) {
	d := formatted(t, 34, example)
	for _, b := range []int{4, 19, 20, 5, 17, 21, 33} {
		lay(t, d, b, scrawl(b))
	}
	data, _ := d.Read(3)
	copy(data[:64], scrawl(0))
	copy(data[128:], scrawl(1))
	lay(t, d, 3, data)
	if id, _ := mounted(t, d).NewId(); id != 2 {
		t.Error("NewId", id)
	}
	other := api.Inode{Kind: api.Dir, Links: 0, Id: 17, Size: 512, P: [api.Direct]int{3, 3, 4095}}
	layInode(t, d, example, vol.Root, other)
	v := mounted(t, d)
	if i, e := v.Inode(vol.Root); i != other || e != api.OK {
		t.Error("the root", i, e)
	}
	if id, _ := v.NewId(); id != 18 {
		t.Error("NewId", id)
	}
}

// P13.2, P13.4: the next number is behind the greatest of all slots, wherever it stands, used or not; none comes behind 2^62.
func TestNextNumber(t *testing.T) {
	for slot := range geo.Slots(example) {
		for _, id := range []int64{1, 2, 300, 1<<62 - 1, 1 << 62} {
			d := formatted(t, 34, example)
			kind := api.File
			if slot == vol.Root {
				kind = api.Dir
			}
			layInode(t, d, example, slot, api.Inode{Kind: kind, Id: id})
			v := mounted(t, d)
			for want := max(id, 1) + 1; want <= min(id+3, 1<<62); want++ {
				if got, e := v.NewId(); got != want || e != api.OK {
					t.Errorf("slot %d of number %d: %d, %d, not %d", slot, id, got, e, want)
				}
			}
			for range 3 {
				got, e := v.NewId()
				if id >= 1<<62-1 && (got != 0 || e != api.ErrFull) {
					t.Errorf("NewId behind the last: %d, %d", got, e)
				}
			}
		}
	}
}

// P13.4: numbers rise, whatever is set; the disk says the greatest at the next Mount.
func TestNewId(t *testing.T) {
	d := formatted(t, 34, example)
	v := mounted(t, d)
	for want := int64(2); want < 40; want++ {
		if id, e := v.NewId(); id != want || e != api.OK {
			t.Errorf("NewId: %d, %d, not %d", id, e, want)
		}
		v.SetInode(3, api.Inode{Kind: api.File, Id: 900})
	}
	if id, _ := mounted(t, d).NewId(); id != 2 {
		t.Error("NewId of what the disk has", id)
	}
}
