package scan_test

import (
	"bytes"
	"fmt"
	"math"
	"slices"
	"testing"

	"levee/api"
	"levee/disk"
	"levee/fs"
	"levee/geo"
	"levee/scan"
	"levee/super"
	"levee/sync"
	"levee/vol"
)

// P27.1: of no disk, and of disks on which there is no volume.
func TestNoVolume(t *testing.T) {
	refused := func(what string, d *disk.Disk, want api.Errno) {
		t.Helper()
		was := state(d)
		s, e := scan.Read(d)
		if s != nil || e != want || state(d) != was {
			t.Errorf("%s: %v, %d, not %d", what, s, e, want)
		}
	}
	refused("nil", nil, api.ErrNil)
	refused("a disk that was not made", new(disk.Disk), api.ErrSuper)
	for _, n := range []int{1, 2, 3, 74, api.MaxBlocks} {
		d, _ := disk.New(n)
		refused("zeros", d, api.ErrSuper)
		d, _ = disk.Load(bytes.Repeat([]byte{0xff}, n*api.Block))
		refused("ones", d, api.ErrSuper)
	}
	d, _ := planted(t)
	for n := 1; n <= d.Len(); n++ {
		short, _ := disk.Load(d.Bytes()[:n*api.Block])
		if n < geo.Size(shape) {
			refused(fmt.Sprint("cut to ", n), short, api.ErrSuper)
		} else if _, e := scan.Read(short); e != api.OK {
			t.Errorf("cut to %d: %d", n, e)
		}
	}
}

// P27.1: of nothing that was scanned, and of a Scan that Read did not make.
func TestNil(t *testing.T) {
	for _, s := range []*scan.Scan{nil, new(scan.Scan)} {
		if s.Geo() != (api.Geo{}) || len(s.Kept()) != 0 || len(s.Lost()) != 0 || s.Steps() != 0 {
			t.Errorf("%v, %v, %v, %d", s.Geo(), s.Kept(), s.Lost(), s.Steps())
		}
		for _, n := range []int{math.MinInt, -1, 0, 1, 5, math.MaxInt} {
			if i, ok := s.Thing(n); i != (api.Inode{}) || ok || s.Owner(n) != 0 || len(s.Block(n)) != 0 {
				t.Errorf("%d: %v, %t, %d, %v", n, i, ok, s.Owner(n), s.Block(n))
			}
		}
	}
}

// P27.1, P6: numbers of slots and blocks that there are not.
func TestNoSuch(t *testing.T) {
	d, x := planted(t)
	s := read(t, "planted", d)
	for _, n := range []int{math.MinInt, math.MinInt32, -1, 0, geo.Slots(shape), geo.Size(shape), api.MaxBlocks, math.MaxInt32, math.MaxInt} {
		if i, ok := s.Thing(n); i != (api.Inode{}) || ok {
			t.Errorf("Thing(%d): %v, %t", n, i, ok)
		}
		if o, b := s.Owner(n), s.Block(n); o != 0 || len(b) != 0 {
			t.Errorf("Owner(%d): %d, %v", n, o, b)
		}
	}
	for _, b := range []int{0, 1, 2, 3, 4, 26, spare[0]} {
		if s.Owner(b) != 0 || len(s.Block(b)) != 0 {
			t.Errorf("the block %d is that of %d: %v", b, s.Owner(b), s.Block(b))
		}
	}
	if i, ok := s.Thing(x.deep); !ok || i.Kind != api.File {
		t.Errorf("Thing(%d): %v, %t", x.deep, i, ok)
	}
}

// P27.1, P27.3: a volume that was formatted, and one with a tree, of which all is kept as it is.
func TestWhole(t *testing.T) {
	for _, g := range []api.Geo{{Group: 16, Inodes: 4, Groups: 1}, {Group: 16, Inodes: 44, Groups: 16}, {Group: 21, Inodes: 64, Groups: 1}, {Group: 128, Inodes: 64, Groups: 16}} {
		for _, more := range []int{0, 1, 200} {
			d := formatted(t, geo.Size(g)+more, g)
			w := &want{paper: paperOf(t, d, g), kept: []int{vol.Root}}
			w.holds(fmt.Sprint(g), read(t, fmt.Sprint(g), d))
		}
	}
	d, x := planted(t)
	wanted(t, d, x).holds("planted", read(t, "planted", d))
}

// P27.1: the shape is that of the superblock that is chosen; what stands in groups that it has not is not there.
func TestShape(t *testing.T) {
	d, x := planted(t)
	for _, groups := range []int{1, 2, 3} {
		p := paperOf(t, d, shape)
		g := shape
		g.Groups = groups
		next, e := super.Put(super.Super{Gen: 2, Geo: g})
		calls(t, e)
		copy(p.at(0), next)
		s := read(t, "smaller", p.disk())
		if s.Geo() != g {
			t.Errorf("it is %v", s.Geo())
		}
		for _, slot := range s.Kept() {
			if slot >= groups*8 {
				t.Errorf("kept is %d, of %d groups", slot, groups)
			}
		}
		p.at(0)[99]++
		w := wanted(t, d, x)
		w.bytes = p.bytes
		w.holds("with a superblock that is broken", read(t, "broken", p.disk()))
	}
}

// P27.1: blocks are as they are read, safe or not, and nothing is written.
func TestUnsafe(t *testing.T) {
	d, x := planted(t)
	p := paperOf(t, d, shape)
	p.turn(vol.Root, "l", func(e *api.Entry) { *e = api.Entry{} })
	b := p.thing(vol.Root).P[0]
	d.Write(b, p.at(b))
	w := wanted(t, d, x)
	w.loses(x.l)
	w.holds("written", read(t, "written", d))
	d.Stop(0)
	w.holds("stopped", read(t, "stopped", d))
	d.Crash(nil)
	wanted(t, d, x).holds("behind a crash", read(t, "behind a crash", d))
}

// What is answered is the caller's.
func TestMemory(t *testing.T) {
	d, x := planted(t)
	p := paperOf(t, d, shape)
	p.put(free[0], api.Inode{Kind: api.File, Id: 99})
	d = p.disk()
	s := read(t, "planted", d)
	w := wanted(t, d, x)
	w.lost = []int{free[0]}
	for range 2 {
		clear(s.Kept())
		clear(s.Lost())
		_ = append(s.Kept()[:1], 7)
		for b := range d.Len() {
			clear(s.Block(b))
		}
		w.holds("written over", s)
	}
	for b := range d.Len() {
		d.Write(b, make([]byte, api.Block))
	}
	w.holds("with another disk", s)
}

// P27.2: each inode, each name of a thing that is kept and each of its entries is looked at once; an entry that waits, twice.
func TestSteps(t *testing.T) {
	for _, g := range []api.Geo{shape, {Group: 16, Inodes: 4, Groups: 1}, {Group: 128, Inodes: 64, Groups: 16}} {
		s := read(t, "fresh", formatted(t, geo.Size(g), g))
		if want := geo.Slots(g) - 1 + 8; s.Steps() != want {
			t.Errorf("%v: %d steps, not %d", g, s.Steps(), want)
		}
	}
	d, _ := planted(t)
	things, names, lists := 8, 4, 4
	want := geo.Slots(shape) - 1 + 8*things + api.Ptrs*names + api.PerDir*lists
	if s := read(t, "planted", d); s.Steps() != want {
		t.Errorf("%d steps, not %d", s.Steps(), want)
	}
	p := paperOf(t, d, shape)
	p.turn(vol.Root, "a", func(e *api.Entry) { e.Leaving = true })
	if s := read(t, "one that waits", p.disk()); s.Steps() != want+1 {
		t.Errorf("one that waits: %d steps, not %d", s.Steps(), want+1)
	}
}

// fresh is a root's inode.
var fresh = api.Inode{Kind: api.Dir, Links: 1, Id: 1}

// P27.1: a root that is no directory, or is not there, is a fresh one; nothing is come to by it. Its slot's thing is not one that is lost.
func TestRoot(t *testing.T) {
	gone := func(w *want, x things) {
		w.put(vol.Root, fresh)
		w.loses(x.a, x.f, x.b, x.deep, x.l, x.empty, x.c)
		clear(w.owners)
	}
	turned := func(turn func(i *api.Inode)) func(p *paper, x things) {
		return func(p *paper, _ things) { p.inode(vol.Root, turn) }
	}
	links := func(w *want, _ things) { w.links(vol.Root, 1) }
	edges(t,
		edge{"a file", turned(func(i *api.Inode) { i.Kind = api.File }), gone},
		edge{"a link", turned(func(i *api.Inode) { i.Kind, i.Size = api.Link, 9 }), gone},
		edge{"none", turned(func(i *api.Inode) { *i = api.Inode{} }), gone},
		edge{"what can not be", func(p *paper, _ things) { p.spoil(vol.Root) }, gone},
		edge{"a directory with another number", turned(func(i *api.Inode) { i.Id = 1 << 62 }), nil},
		edge{"a directory without links", turned(func(i *api.Inode) { i.Links = 0 }), links},
		edge{"a directory with many links", turned(func(i *api.Inode) { i.Links = 1000 }), links},
		edge{"a directory without bytes", turned(func(i *api.Inode) { i.Size, i.P[0] = 0, 0 }), gone},
		edge{"a directory of a hole", turned(func(i *api.Inode) { i.P[0] = 0 }), func(w *want, x things) {
			gone(w, x)
			w.inode(vol.Root, func(i *api.Inode) { i.Size = api.Block })
		}},
	)
}

// P27.1: the slot 0 has no thing, whatever stands there; a slot whose bytes are no inode has none.
func TestNoThing(t *testing.T) {
	edges(t,
		edge{"a thing in the slot 0", func(p *paper, x things) { p.put(0, p.thing(x.f)) }, nil},
		edge{"a directory in the slot 0", func(p *paper, _ things) { p.put(0, api.Inode{Kind: api.Dir, Links: 1, Id: 99}) }, nil},
		edge{"bytes in the slot 0", func(p *paper, _ things) { p.spoil(0) }, nil},
		edge{"bytes in a slot without a thing", func(p *paper, _ things) { p.spoil(free[0]) }, nil},
		edge{"a thing that no entry names", func(p *paper, _ things) { p.put(free[0], api.Inode{Kind: api.File, Links: 1, Id: 99}) }, func(w *want, _ things) {
			w.loses(free[0])
		}},
		edge{"things of all kinds that no entry names", func(p *paper, _ things) {
			p.put(free[2], api.Inode{Kind: api.File, Links: 3, Size: 1000, Id: 99, P: [api.Direct]int{spare[0]}})
			p.put(free[1], api.Inode{Kind: api.Link, Size: 1, Id: 100, P: [api.Direct]int{spare[0]}})
			p.put(free[0], api.Inode{Kind: api.Dir, Links: 1, Id: 101})
		}, func(w *want, _ things) { w.loses(free[:3]...) }},
		edge{"a file that can not be", func(p *paper, x things) { p.spoil(x.deep) }, func(w *want, x things) {
			w.turn(vol.Root, "deep", func(e *api.Entry) { *e = api.Entry{} })
			w.loses(x.deep)
			w.lost = nil
		}},
		edge{"a directory that can not be", func(p *paper, x things) { p.spoil(x.b) }, func(w *want, x things) {
			w.turn(vol.Root, "b", func(e *api.Entry) { *e = api.Entry{} })
			w.loses(x.b, x.c)
			w.lost = []int{x.c}
		}},
	)
}

// P27.1: a thing has as many Links as entries name it in the end.
func TestLinks(t *testing.T) {
	for _, n := range []int{0, 1, 2, 7, 1000} {
		d, x := planted(t)
		p := paperOf(t, d, shape)
		for _, slot := range []int{vol.Root, x.a, x.f, x.b, x.deep, x.l, x.empty, x.c} {
			p.links(slot, n)
		}
		w := wanted(t, d, x)
		w.holds("links", read(t, "links", p.disk()))
	}
}

func (p *paper) links(slot, n int) {
	p.t.Helper()
	p.inode(slot, func(i *api.Inode) { i.Links = n })
}

// P27.1: a block that two things name is that of the first one that is kept.
func TestTwoOwners(t *testing.T) {
	edges(t,
		edge{"a file's, and a link's", func(p *paper, x things) {
			p.inode(x.l, func(i *api.Inode) { i.P[0] = p.thing(x.f).P[0] })
		}, func(w *want, x things) {
			w.inode(x.l, func(i *api.Inode) { i.P[0] = 0 })
			w.disown(w.ownedBy(x.l)...)
		}},
		edge{"the root's, and a file's", func(p *paper, x things) {
			p.inode(x.f, func(i *api.Inode) { i.P[1] = p.thing(vol.Root).P[0] })
		}, func(w *want, x things) {
			was := w.ownedBy(x.f)
			w.inode(x.f, func(i *api.Inode) { i.P[1] = 0 })
			w.disown(was...)
			w.owners[w.thing(x.f).P[0]] = x.f
		}},
		edge{"a directory's, and that of one that is come to later", func(p *paper, x things) {
			p.inode(x.b, func(i *api.Inode) { i.P[0] = p.thing(x.a).P[0] })
		}, func(w *want, x things) {
			w.inode(x.b, func(i *api.Inode) { i.P[0] = 0 })
			w.disown(w.ownedBy(x.b)...)
			w.loses(x.c)
		}},
		edge{"a file's, and another one's block of names", func(p *paper, x things) {
			p.inode(x.deep, func(i *api.Inode) { i.In = p.thing(x.f).P[0] })
		}, func(w *want, x things) {
			d, _ := planted(w.t)
			was := paperOf(w.t, d, shape).thing(x.deep).In
			w.inode(x.deep, func(i *api.Inode) { i.In = 0 })
			w.disown(was, w.called(was, 2))
		}},
		edge{"a block of names, and an empty file's", func(p *paper, x things) {
			p.inode(x.empty, func(i *api.Inode) { i.Size, i.P[0] = 9, p.thing(x.deep).In })
		}, func(w *want, x things) {
			w.inode(x.empty, func(i *api.Inode) { i.P[0] = 0 })
		}},
		edge{"in two blocks of names", func(p *paper, x things) {
			p.inode(x.f, func(i *api.Inode) { i.Size, i.In = 10*api.Block, spare[0] })
			clear(p.at(spare[0]))
			p.call(spare[0], 3, uint32(p.called(p.thing(x.deep).In, 2)))
		}, func(w *want, x things) {
			w.owners[spare[0]] = x.f
			b := w.called(spare[0], 3)
			w.owners[b] = x.f
			w.call(w.thing(x.deep).In, 2, 0)
		}},
		edge{"of a thing that is not kept", func(p *paper, x things) {
			p.put(free[0], p.thing(x.deep))
			p.inode(free[0], func(i *api.Inode) { i.Id = 99 })
		}, func(w *want, x things) { w.loses(free[0]) }},
	)
}

// ownedBy are the blocks that a thing owns.
func (w *want) ownedBy(slot int) []int {
	var all []int
	for b, of := range w.owners {
		if of == slot {
			all = append(all, b)
		}
	}
	return all
}

// P27.1: a block that one thing names twice is there at the first place: of P, of In and what it names, of Din likewise.
func TestTwice(t *testing.T) {
	edges(t,
		edge{"in P", func(p *paper, x things) {
			p.inode(x.f, func(i *api.Inode) { i.P[1] = i.P[0] })
		}, func(w *want, x things) {
			all := w.ownedBy(x.f)
			w.inode(x.f, func(i *api.Inode) { i.P[1] = 0 })
			w.disown(all...)
			b := w.thing(x.f).P[0]
			w.owners[b] = x.f
			clear(w.at(b)[api.Block:])
		}},
		edge{"in P, and as In", func(p *paper, x things) {
			p.inode(x.deep, func(i *api.Inode) { i.P[0] = i.In })
		}, func(w *want, x things) {
			in := w.thing(x.deep).In
			w.disown(w.called(in, 2))
			w.inode(x.deep, func(i *api.Inode) { i.In = 0 })
		}},
		edge{"in P, and as Din", func(p *paper, x things) {
			p.inode(x.deep, func(i *api.Inode) { i.P[5] = i.Din })
		}, func(w *want, x things) {
			din := w.thing(x.deep).Din
			for _, at := range []int{0, 2} {
				sub := w.called(din, at)
				w.disown(sub, w.called(sub, 0), w.called(sub, 1))
			}
			w.inode(x.deep, func(i *api.Inode) { i.Din = 0 })
		}},
		edge{"as In and as Din", func(p *paper, x things) {
			p.inode(x.deep, func(i *api.Inode) { i.Din = i.In })
		}, func(w *want, x things) {
			w.inode(x.deep, func(i *api.Inode) {
				all := w.ownedBy(x.deep)
				w.disown(all...)
				for _, b := range []int{i.P[1], i.In, w.called(i.In, 2)} {
					w.owners[b] = x.deep
				}
				i.Din = 0
			})
		}},
		edge{"in P, and in In", func(p *paper, x things) {
			p.call(p.thing(x.deep).In, 63, uint32(p.thing(x.deep).P[1]))
		}, func(w *want, x things) { w.call(w.thing(x.deep).In, 63, 0) }},
		edge{"In, and in In", func(p *paper, x things) {
			p.call(p.thing(x.deep).In, 0, uint32(p.thing(x.deep).In))
		}, func(w *want, x things) { w.call(w.thing(x.deep).In, 0, 0) }},
		edge{"twice in In", func(p *paper, x things) {
			p.call(p.thing(x.deep).In, 0, uint32(spare[0]))
			p.call(p.thing(x.deep).In, 7, uint32(spare[0]))
		}, func(w *want, x things) {
			w.owners[spare[0]] = x.deep
			w.call(w.thing(x.deep).In, 7, 0)
		}},
		edge{"in In, and as Din", func(p *paper, x things) {
			p.call(p.thing(x.deep).In, 5, uint32(p.thing(x.deep).Din))
		}, func(w *want, x things) {
			din := w.thing(x.deep).Din
			for _, at := range []int{0, 2} {
				sub := w.called(din, at)
				w.disown(sub, w.called(sub, 0), w.called(sub, 1))
			}
			w.inode(x.deep, func(i *api.Inode) { i.Din = 0 })
		}},
		edge{"In, and in Din", func(p *paper, x things) {
			p.call(p.thing(x.deep).Din, 1, uint32(p.thing(x.deep).In))
		}, func(w *want, x things) { w.call(w.thing(x.deep).Din, 1, 0) }},
		edge{"Din, and in Din", func(p *paper, x things) {
			p.call(p.thing(x.deep).Din, 1, uint32(p.thing(x.deep).Din))
		}, func(w *want, x things) { w.call(w.thing(x.deep).Din, 1, 0) }},
		edge{"in Din, and in what that names", func(p *paper, x things) {
			din := p.thing(x.deep).Din
			p.call(p.called(din, 0), 5, uint32(p.called(din, 0)))
			p.call(p.called(din, 0), 6, uint32(din))
			p.call(p.called(din, 0), 7, uint32(p.called(din, 2)))
		}, func(w *want, x things) { // what the first one names comes ahead of the third one
			din := w.thing(x.deep).Din
			first, third := w.called(din, 0), w.called(din, 2)
			w.call(first, 5, 0)
			w.call(first, 6, 0)
			w.disown(w.called(third, 1))
			w.call(din, 2, 0)
		}},
		edge{"one block of names twice in Din", func(p *paper, x things) {
			din := p.thing(x.deep).Din
			p.call(din, 1, uint32(p.called(din, 0)))
		}, func(w *want, x things) { w.call(w.thing(x.deep).Din, 1, 0) }},
	)
}

// P27.1: a name that is none of a data block is 0 from then on, all its bytes counted.
func TestNoData(t *testing.T) {
	for _, b := range []int{1, 2, 3, 4, 26, 50, geo.Size(shape), geo.Size(shape) + 4, api.MaxBlocks - 1} {
		edges(t,
			edge{fmt.Sprint("in P: ", b), func(p *paper, x things) {
				p.inode(x.deep, func(i *api.Inode) { i.P[2] = b })
			}, func(w *want, x things) { w.inode(x.deep, func(i *api.Inode) { i.P[2] = 0 }) }},
			edge{fmt.Sprint("In: ", b), func(p *paper, x things) {
				p.inode(x.f, func(i *api.Inode) { i.Size, i.In = 9*api.Block, b })
			}, func(w *want, x things) { w.inode(x.f, func(i *api.Inode) { i.In = 0 }) }},
			edge{fmt.Sprint("Din: ", b), func(p *paper, x things) {
				p.inode(x.f, func(i *api.Inode) { i.Size, i.Din = 71*api.Block, b })
			}, func(w *want, x things) { w.inode(x.f, func(i *api.Inode) { i.Din = 0 }) }},
		)
	}
	for _, b := range []uint32{1, 2, 3, uint32(geo.Size(shape)), api.MaxBlocks, 1<<16 | 20, 1 << 31, 1<<31 | uint32(spare[0]), 1<<24 | uint32(spare[0]), math.MaxInt32, math.MaxUint32} {
		edges(t,
			edge{fmt.Sprint("in In: ", b), func(p *paper, x things) {
				p.call(p.thing(x.deep).In, 9, b)
			}, func(w *want, x things) { w.call(w.thing(x.deep).In, 9, 0) }},
			edge{fmt.Sprint("in Din: ", b), func(p *paper, x things) {
				p.call(p.thing(x.deep).Din, 1, b)
			}, func(w *want, x things) { w.call(w.thing(x.deep).Din, 1, 0) }},
			edge{fmt.Sprint("below Din: ", b), func(p *paper, x things) {
				p.call(p.called(p.thing(x.deep).Din, 0), 63, b)
			}, func(w *want, x things) { w.call(w.called(w.thing(x.deep).Din, 0), 63, 0) }},
		)
	}
}

// P27.1: no name stands at the place of an n behind the end, and In and Din are 0, if all theirs are.
func TestBehindTheEnd(t *testing.T) {
	sized := func(blocks, bytes int64) func(p *paper, x things) {
		return func(p *paper, x things) {
			p.inode(x.deep, func(i *api.Inode) { i.Size = blocks*api.Block + bytes })
		}
	}
	below := func(w *want, x things) (in, din, first, third int) {
		i := w.thing(x.deep)
		return i.In, i.Din, w.called(i.Din, 0), w.called(i.Din, 2)
	}
	noDin := func(w *want, x things) {
		_, din, first, third := below(w, x)
		w.disown(din, first, third, w.called(first, 0), w.called(first, 1), w.called(third, 1))
		w.inode(x.deep, func(i *api.Inode) { i.Din = 0 })
	}
	noIn := func(w *want, x things) {
		noDin(w, x)
		in := w.thing(x.deep).In
		w.disown(in, w.called(in, 2))
		w.inode(x.deep, func(i *api.Inode) { i.In = 0 })
	}
	edges(t,
		edge{"no bytes", sized(0, 0), func(w *want, x things) {
			noIn(w, x)
			w.disown(w.thing(x.deep).P[1])
			w.inode(x.deep, func(i *api.Inode) { i.P[1] = 0 })
		}},
		edge{"a block less than P's", sized(1, 0), func(w *want, x things) {
			noIn(w, x)
			w.disown(w.thing(x.deep).P[1])
			w.inode(x.deep, func(i *api.Inode) { i.P[1] = 0 })
		}},
		edge{"a byte of P's", sized(1, 1), func(w *want, x things) {
			noIn(w, x)
			clear(w.at(w.thing(x.deep).P[1])[1:])
		}},
		edge{"all blocks that the inode names", sized(6, 0), noIn},
		edge{"a byte more", sized(6, 1), func(w *want, x things) {
			noDin(w, x)
			in, _, _, _ := below(w, x)
			w.disown(w.called(in, 2))
			w.call(in, 2, 0)
		}},
		edge{"up to In's", sized(8, 0), func(w *want, x things) {
			noDin(w, x)
			in, _, _, _ := below(w, x)
			w.disown(w.called(in, 2))
			w.call(in, 2, 0)
		}},
		edge{"some bytes of In's", sized(8, 11), func(w *want, x things) {
			noDin(w, x)
			in, _, _, _ := below(w, x)
			clear(w.at(w.called(in, 2))[11:])
		}},
		edge{"all that In names", sized(70, 0), noDin},
		edge{"a byte more than that", sized(70, 1), func(w *want, x things) {
			_, din, first, third := below(w, x)
			w.disown(third, w.called(third, 1), w.called(first, 1))
			w.call(din, 2, 0)
			w.call(first, 1, 0)
			clear(w.at(w.called(first, 0))[1:])
		}},
		edge{"two blocks more", sized(72, 0), func(w *want, x things) {
			_, din, _, third := below(w, x)
			w.disown(third, w.called(third, 1))
			w.call(din, 2, 0)
		}},
		edge{"all that the second one below Din names", sized(70+128, 0), func(w *want, x things) {
			_, din, _, third := below(w, x)
			w.disown(third, w.called(third, 1))
			w.call(din, 2, 0)
		}},
		edge{"a byte of the third one's", sized(70+128, 1), func(w *want, x things) {
			_, _, _, third := below(w, x)
			w.disown(w.called(third, 1))
			w.call(third, 1, 0)
		}},
		edge{"the last byte", sized(199, 12), func(w *want, x things) {
			_, _, _, third := below(w, x)
			clear(w.at(w.called(third, 1))[12:])
		}},
		edge{"all that a file can have", sized(api.MaxFile, 0), nil},
		edge{"names of a file without bytes", func(p *paper, x things) {
			p.inode(x.empty, func(i *api.Inode) { i.P, i.In, i.Din = [api.Direct]int{spare[0], 0, spare[1]}, spare[2], spare[1] })
		}, func(w *want, x things) {
			w.inode(x.empty, func(i *api.Inode) { i.P, i.In, i.Din = [api.Direct]int{}, 0, 0 })
		}},
		edge{"names of a link behind its only block", func(p *paper, x things) {
			p.inode(x.l, func(i *api.Inode) { i.P[1], i.In = spare[0], spare[1] })
		}, func(w *want, x things) {
			w.inode(x.l, func(i *api.Inode) { i.P[1], i.In = 0, 0 })
		}},
		edge{"the second block of a directory", func(p *paper, x things) {
			p.inode(x.a, func(i *api.Inode) { i.Size = api.Block })
		}, func(w *want, x things) {
			w.disown(w.thing(x.a).P[1])
			w.inode(x.a, func(i *api.Inode) { i.P[1] = 0 })
			w.links(x.empty, w.thing(x.empty).Links-1)
		}},
	)
}

// P27.1: bytes of a file or a link behind its Size in its last block are 0; those of all other blocks stay, and a directory's.
func TestTails(t *testing.T) {
	tail := func(slot func(x things) int, at, from int) edge {
		n := from / api.Block
		return edge{fmt.Sprint("the byte ", at, " behind ", from), func(p *paper, x things) {
			p.inode(slot(x), func(i *api.Inode) { i.Size = int64(from) })
			p.at(p.thing(slot(x)).P[n])[at] = 0x77
		}, func(w *want, x things) {
			clear(w.at(w.thing(slot(x)).P[n])[from%api.Block:])
		}}
	}
	f := func(x things) int { return x.f }
	l := func(x things) int { return x.l }
	edges(t, tail(f, 44, 300), tail(f, 255, 300), tail(f, 255, 511), tail(f, 1, 257), tail(f, 43, 300), tail(l, 3, 3), tail(l, 255, 3), tail(l, 255, 254), tail(l, 255, 255), tail(l, 1, 1),
		edge{"a last block that is full", func(p *paper, x things) {
			p.inode(x.f, func(i *api.Inode) { i.Size = 512 })
			p.at(p.thing(x.f).P[1])[255] = 9
		}, nil},
		edge{"a block that is not the last", func(p *paper, x things) { p.at(p.thing(x.f).P[0])[255] = 9 }, nil},
		edge{"a last block that is not there", func(p *paper, x things) {
			p.inode(x.f, func(i *api.Inode) { i.Size = 700 })
			p.at(p.thing(x.f).P[1])[255] = 9
		}, nil},
		edge{"a link of a hole", func(p *paper, x things) {
			p.inode(x.l, func(i *api.Inode) { i.P[0] = 0 })
		}, func(w *want, x things) { w.disown(w.ownedBy(x.l)...) }},
	)
}

// P27.1: a place becomes empty, if it can not be an entry, its name stands at an earlier place, or its slot is none or has no thing.
func TestEntries(t *testing.T) {
	// broken are the bytes of the link's entry, turned, and of the first empty place.
	broken := func(name string, turn func(e []byte)) edge {
		return edge{name, func(p *paper, _ things) {
			b, at := p.place(vol.Root, "l")
			turn(p.at(b)[at*32 : at*32+32])
		}, func(w *want, x things) {
			clear(w.at(w.thing(vol.Root).P[0])[4*32 : 5*32])
			w.loses(x.l)
		}}
	}
	empty := func(name string, turn func(e []byte)) edge {
		return edge{"in an empty place " + name, func(p *paper, _ things) {
			turn(p.at(p.thing(vol.Root).P[0])[5*32 : 6*32])
		}, func(w *want, _ things) { clear(w.at(w.thing(vol.Root).P[0])[5*32 : 6*32]) }}
	}
	// more is an entry more in the root, behind the link's, that must go.
	more := func(name string, e func(x things) api.Entry) edge {
		return edge{name, func(p *paper, x things) { p.add(vol.Root, e(x)) }, func(w *want, _ things) {
			clear(w.at(w.thing(vol.Root).P[0])[5*32 : 6*32])
		}}
	}
	of := func(slot int) func(x things) api.Entry {
		return func(things) api.Entry { return api.Entry{Slot: slot, Name: "new"} }
	}
	edges(t,
		broken("a byte behind the name", func(e []byte) { e[31] = 1 }),
		broken("a sign that is none", func(e []byte) { e[2] = 2 }),
		broken("a name without bytes", func(e []byte) { e[3], e[4] = 0, 0 }),
		broken("a name that is told too short", func(e []byte) { e[3] = 0 }),
		broken("a name that is told too long", func(e []byte) { e[3] = 25 }),
		broken("a name with a 0", func(e []byte) { e[3] = 2 }),
		broken("a name with a /", func(e []byte) { e[4] = '/' }),
		broken("a name of a dot", func(e []byte) { e[4] = '.' }),
		broken("a name of two dots", func(e []byte) { e[3], e[4], e[5] = 2, '.', '.' }),
		broken("no slot", func(e []byte) { e[0], e[1] = 0, 0 }),
		broken("a slot that no volume has", func(e []byte) { e[1] = 4 }),
		broken("nothing but a name", func(e []byte) { clear(e[:4]) }),
		empty("a byte", func(e []byte) { e[31] = 1 }),
		empty("a sign", func(e []byte) { e[2] = 1 }),
		empty("a length", func(e []byte) { e[3] = 1 }),
		empty("a slot alone", func(e []byte) { e[0] = 2 }),
		more("the root's slot", of(vol.Root)),
		more("the root's slot, Leaving", func(things) api.Entry { return api.Entry{Slot: vol.Root, Leaving: true, Name: "new"} }),
		more("a slot without a thing", of(free[0])),
		more("a slot without a thing, Leaving", func(things) api.Entry { return api.Entry{Slot: free[0], Leaving: true, Name: "new"} }),
		more("the first slot behind the volume", of(geo.Slots(shape))),
		more("the last slot that can be", of(1023)),
		more("a name that stands ahead", func(x things) api.Entry { return api.Entry{Slot: x.empty, Name: "f"} }),
		more("a name that stands ahead, of the same thing", func(x things) api.Entry { return api.Entry{Slot: x.f, Name: "f"} }),
		more("a directory's name that stands ahead", func(x things) api.Entry { return api.Entry{Slot: x.empty, Name: "a"} }),
		more("a name that stands ahead, Leaving", func(x things) api.Entry { return api.Entry{Slot: x.c, Leaving: true, Name: "f"} }),
		edge{"a slot whose inode can not be", func(p *paper, _ things) {
			p.spoil(free[0])
			p.add(vol.Root, api.Entry{Slot: free[0], Name: "new"})
		}, func(w *want, _ things) { clear(w.at(w.thing(vol.Root).P[0])[5*32 : 6*32]) }},
		edge{"the name of the last one", func(p *paper, _ things) {
			p.turn(vol.Root, "l", func(e *api.Entry) { e.Name = "deep" })
		}, func(w *want, x things) {
			clear(w.at(w.thing(vol.Root).P[0])[4*32 : 5*32])
			w.loses(x.l)
		}},
		edge{"a name in the second block that stands in the first one", func(p *paper, x things) {
			p.entry(p.thing(x.a).P[1], 5, api.Entry{Slot: x.l, Name: "f"})
		}, func(w *want, x things) { clear(w.at(w.thing(x.a).P[1])[5*32 : 6*32]) }},
		edge{"a name that stands in another directory", func(p *paper, x things) {
			p.add(x.b, api.Entry{Slot: x.empty, Name: "f"})
		}, func(w *want, x things) { w.links(x.empty, 9) }},
	)
}

// P27.1: what became empty is no earlier place with a name; what waits is one, whatever becomes of it.
func TestNamesAhead(t *testing.T) {
	ahead := func(name string, first api.Entry, stays bool) edge {
		return edge{name, func(p *paper, x things) {
			p.fill(x.c, spare[0], first, api.Entry{Slot: x.empty, Name: first.Name})
		}, func(w *want, x things) {
			w.owners[spare[0]] = x.c
			w.entry(spare[0], 0, api.Entry{})
			if stays {
				w.links(x.empty, 9)
			} else {
				w.entry(spare[0], 1, api.Entry{})
			}
		}}
	}
	_, x := planted(t)
	edges(t,
		ahead("of a slot without a thing", api.Entry{Slot: free[0], Name: "n"}, true),
		ahead("of the root's slot", api.Entry{Slot: vol.Root, Name: "n"}, true),
		ahead("of a directory that is kept", api.Entry{Slot: x.b, Name: "n"}, true),
		ahead("of one that waits", api.Entry{Slot: x.b, Leaving: true, Name: "n"}, false),
	)
}

// P27.1: directories whose blocks are named in all ways, with holes between, have their places by the way of n.
func TestManyBlocks(t *testing.T) {
	edges(t, edge{"by P, In and Din", func(p *paper, x things) {
		for i, b := range spare {
			clear(p.at(b))
			p.entry(b, i, api.Entry{Slot: free[i], Name: "n"})
			p.put(free[i], api.Inode{Kind: api.File, Id: int64(100 + i)})
		}
		in, din, sub := block(2, 10), block(2, 11), block(2, 12)
		clear(p.at(in))
		clear(p.at(din))
		clear(p.at(sub))
		p.call(in, 63, uint32(spare[1]))
		p.call(din, 63, uint32(sub))
		p.call(sub, 63, uint32(spare[2]))
		p.entry(spare[1], 0, api.Entry{Slot: free[3], Name: "m"})
		p.put(free[3], api.Inode{Kind: api.File, Id: 104})
		p.inode(x.c, func(i *api.Inode) {
			i.Size, i.P[4], i.In, i.Din = api.MaxFile*api.Block, spare[0], in, din
		})
	}, func(w *want, x things) {
		for _, b := range append([]int{block(2, 10), block(2, 11), block(2, 12)}, spare...) {
			w.owners[b] = x.c
		}
		w.entry(spare[1], 1, api.Entry{})
		w.entry(spare[2], 2, api.Entry{})
		w.kept = append(w.kept, free[0], free[3])
		w.links(free[0], 1)
		w.links(free[3], 1)
		w.lost = []int{free[1], free[2]}
	}})
}

// P27.1: a Dir whose entry is Leaving waits until all directories have had their turn; it has that name, if nothing keeps it by then.
func TestLeaving(t *testing.T) {
	leaves := func(p *paper, dir int, name string) {
		p.turn(dir, name, func(e *api.Entry) { e.Leaving = true })
	}
	edges(t,
		edge{"without another entry", func(p *paper, x things) { leaves(p, vol.Root, "a") }, func(w *want, x things) {
			w.turn(vol.Root, "a", func(e *api.Entry) { e.Leaving = false })
			w.kept = []int{vol.Root, x.f, x.b, x.deep, x.l, x.c, x.a, x.empty}
		}},
		edge{"with another entry behind it", func(p *paper, x things) {
			leaves(p, vol.Root, "a")
			p.add(x.b, api.Entry{Slot: x.a, Name: "new"})
		}, func(w *want, x things) {
			w.turn(vol.Root, "a", func(e *api.Entry) { *e = api.Entry{} })
			w.kept = []int{vol.Root, x.f, x.b, x.deep, x.l, x.c, x.a, x.empty}
		}},
		edge{"with another entry in the same directory", func(p *paper, x things) {
			leaves(p, vol.Root, "a")
			p.add(vol.Root, api.Entry{Slot: x.a, Name: "new"})
		}, func(w *want, x things) {
			w.turn(vol.Root, "a", func(e *api.Entry) { *e = api.Entry{} })
			w.kept = []int{vol.Root, x.f, x.b, x.deep, x.l, x.a, x.c, x.empty}
		}},
		edge{"with another entry ahead of it", func(p *paper, x things) {
			p.fill(x.c, spare[0], api.Entry{Slot: x.a, Leaving: true, Name: "old"})
		}, func(w *want, x things) {
			w.owners[spare[0]] = x.c
			w.entry(spare[0], 0, api.Entry{})
		}},
		edge{"two of them", func(p *paper, x things) {
			leaves(p, x.b, "c")
			p.add(x.a, api.Entry{Slot: x.c, Leaving: true, Name: "old"})
		}, func(w *want, x things) { // a has its turn ahead of b
			w.turn(x.a, "old", func(e *api.Entry) { e.Leaving = false })
			w.turn(x.b, "c", func(e *api.Entry) { *e = api.Entry{} })
		}},
		edge{"in itself alone", func(p *paper, x things) {
			p.turn(x.b, "c", func(e *api.Entry) { *e = api.Entry{} })
			p.fill(x.c, spare[0], api.Entry{Slot: x.c, Leaving: true, Name: "me"})
		}, func(w *want, x things) { w.loses(x.c) }},
		edge{"of one that is above", func(p *paper, x things) {
			p.fill(x.c, spare[0], api.Entry{Slot: x.b, Leaving: true, Name: "up"})
		}, func(w *want, x things) {
			w.owners[spare[0]] = x.c
			w.entry(spare[0], 0, api.Entry{})
		}},
		edge{"of one that is above, both Leaving", func(p *paper, x things) {
			leaves(p, vol.Root, "b")
			leaves(p, x.b, "c")
			p.fill(x.c, spare[0], api.Entry{Slot: x.b, Leaving: true, Name: "up"})
		}, func(w *want, x things) {
			w.turn(vol.Root, "b", func(e *api.Entry) { e.Leaving = false })
			w.turn(x.b, "c", func(e *api.Entry) { e.Leaving = false })
			w.owners[spare[0]] = x.c
			w.entry(spare[0], 0, api.Entry{})
			w.kept = []int{vol.Root, x.a, x.f, x.deep, x.l, x.empty, x.b, x.c}
		}},
		edge{"of one that another one that waits has, not Leaving", func(p *paper, x things) {
			leaves(p, vol.Root, "a")
			leaves(p, vol.Root, "b")
			p.add(x.a, api.Entry{Slot: x.b, Name: "new"})
		}, func(w *want, x things) { // when a is kept, b still waits
			w.turn(vol.Root, "a", func(e *api.Entry) { e.Leaving = false })
			w.turn(vol.Root, "b", func(e *api.Entry) { *e = api.Entry{} })
			w.kept = []int{vol.Root, x.f, x.deep, x.l, x.a, x.empty, x.b, x.c}
		}},
		edge{"of one that another one that waits has, Leaving too", func(p *paper, x things) {
			leaves(p, vol.Root, "a")
			leaves(p, vol.Root, "b")
			p.add(x.a, api.Entry{Slot: x.b, Leaving: true, Name: "new"})
		}, func(w *want, x things) { // it waits behind b's other one
			w.turn(vol.Root, "a", func(e *api.Entry) { e.Leaving = false })
			w.turn(vol.Root, "b", func(e *api.Entry) { e.Leaving = false })
			w.turn(x.a, "new", func(e *api.Entry) { *e = api.Entry{} })
			w.kept = []int{vol.Root, x.f, x.deep, x.l, x.a, x.empty, x.b, x.c}
		}},
		edge{"below one that waits", func(p *paper, x things) {
			leaves(p, vol.Root, "b")
			leaves(p, x.b, "c")
		}, func(w *want, x things) {
			w.turn(vol.Root, "b", func(e *api.Entry) { e.Leaving = false })
			w.turn(x.b, "c", func(e *api.Entry) { e.Leaving = false })
			w.kept = []int{vol.Root, x.a, x.f, x.deep, x.l, x.empty, x.b, x.c}
		}},
		edge{"of a file", func(p *paper, x things) { leaves(p, vol.Root, "deep") }, func(w *want, x things) {
			w.turn(vol.Root, "deep", func(e *api.Entry) { e.Leaving = false })
		}},
		edge{"of a link", func(p *paper, x things) { leaves(p, vol.Root, "l") }, func(w *want, x things) {
			w.turn(vol.Root, "l", func(e *api.Entry) { e.Leaving = false })
		}},
		edge{"of all names of a file", func(p *paper, x things) {
			leaves(p, vol.Root, "f")
			leaves(p, x.a, "f")
		}, func(w *want, x things) {
			w.turn(vol.Root, "f", func(e *api.Entry) { e.Leaving = false })
			w.turn(x.a, "f", func(e *api.Entry) { e.Leaving = false })
		}},
	)
}

// P27.1: a directory has one name: that by which it is come to first.
func TestDirectories(t *testing.T) {
	edges(t,
		edge{"named twice", func(p *paper, x things) { p.add(x.a, api.Entry{Slot: x.b, Name: "new"}) }, func(w *want, x things) {
			w.turn(x.a, "new", func(e *api.Entry) { *e = api.Entry{} })
		}},
		edge{"named twice in one directory", func(p *paper, x things) { p.add(vol.Root, api.Entry{Slot: x.b, Name: "new"}) }, func(w *want, x things) {
			w.turn(vol.Root, "new", func(e *api.Entry) { *e = api.Entry{} })
		}},
		edge{"named ahead of its other name", func(p *paper, x things) { p.add(vol.Root, api.Entry{Slot: x.c, Name: "new"}) }, func(w *want, x things) {
			w.turn(x.b, "c", func(e *api.Entry) { *e = api.Entry{} })
			w.kept = []int{vol.Root, x.a, x.f, x.b, x.deep, x.l, x.c, x.empty}
		}},
		edge{"that names itself", func(p *paper, x things) {
			p.fill(x.c, spare[0], api.Entry{Slot: x.c, Name: "me"})
		}, func(w *want, x things) {
			w.owners[spare[0]] = x.c
			w.entry(spare[0], 0, api.Entry{})
		}},
		edge{"that nothing else names", func(p *paper, x things) {
			p.turn(x.b, "c", func(e *api.Entry) { *e = api.Entry{} })
			p.fill(x.c, spare[0], api.Entry{Slot: x.c, Name: "me"})
		}, func(w *want, x things) { w.loses(x.c) }},
		edge{"that names the one above it", func(p *paper, x things) {
			p.fill(x.c, spare[0], api.Entry{Slot: x.b, Name: "up"}, api.Entry{Slot: vol.Root, Name: "root"}, api.Entry{Slot: x.f, Name: "f"})
		}, func(w *want, x things) {
			w.owners[spare[0]] = x.c
			w.entry(spare[0], 0, api.Entry{})
			w.entry(spare[0], 1, api.Entry{})
			w.links(x.f, 3)
		}},
		edge{"two that name each other alone", func(p *paper, x things) {
			p.turn(vol.Root, "b", func(e *api.Entry) { *e = api.Entry{} })
			p.fill(x.c, spare[0], api.Entry{Slot: x.b, Name: "up"})
		}, func(w *want, x things) { w.loses(x.b, x.c) }},
		edge{"of bytes that are a file's", func(p *paper, x things) {
			p.inode(x.b, func(i *api.Inode) { i.Kind = api.File })
		}, func(w *want, x things) { w.loses(x.c) }},
		edge{"a file's bytes that are entries", func(p *paper, x things) {
			p.inode(x.l, func(i *api.Inode) { i.Kind, i.Size = api.Dir, api.Block })
		}, func(w *want, x things) { clear(w.at(w.thing(x.l).P[0])) }},
	)
}

// P27.1: of two things of one number the first one that is come to is kept; if they are of one kind, and no directories, the other one's names are its.
func TestTwins(t *testing.T) {
	twin := func(p *paper, slot, of int) { p.put(slot, p.thing(of)) }
	dir := func(id int64) api.Inode { return api.Inode{Kind: api.Dir, Links: 1, Id: id} }
	edges(t,
		edge{"a file's, behind it", func(p *paper, x things) {
			twin(p, free[0], x.f)
			p.add(x.b, api.Entry{Slot: free[0], Name: "twin"})
		}, func(w *want, x things) {
			w.turn(x.b, "twin", func(e *api.Entry) { e.Slot = x.f })
			w.links(x.f, 3)
			w.loses(free[0])
		}},
		edge{"a file's, ahead of it", func(p *paper, x things) {
			twin(p, free[0], x.empty)
			p.add(vol.Root, api.Entry{Slot: free[0], Name: "twin"})
		}, func(w *want, x things) {
			for _, name := range []string{"empty", "0", "1", "2", "3", "4", "5", "6"} {
				w.turn(x.a, name, func(e *api.Entry) { e.Slot = free[0] })
			}
			w.links(free[0], 9)
			w.loses(x.empty)
			w.kept = []int{vol.Root, x.a, x.f, x.b, x.deep, x.l, free[0], x.c}
		}},
		edge{"a link's, Leaving", func(p *paper, x things) {
			twin(p, free[0], x.l)
			p.add(x.a, api.Entry{Slot: free[0], Leaving: true, Name: "twin"})
		}, func(w *want, x things) {
			w.turn(x.a, "twin", func(e *api.Entry) { e.Slot, e.Leaving = x.l, false })
			w.links(x.l, 2)
			w.loses(free[0])
		}},
		edge{"with other bytes", func(p *paper, x things) {
			p.put(free[0], api.Inode{Kind: api.File, Links: 3, Size: 999, Id: p.thing(x.f).Id, P: [api.Direct]int{spare[0]}})
			p.add(x.b, api.Entry{Slot: free[0], Name: "twin"})
		}, func(w *want, x things) {
			w.turn(x.b, "twin", func(e *api.Entry) { e.Slot = x.f })
			w.links(x.f, 3)
			w.loses(free[0])
		}},
		edge{"two of a file's", func(p *paper, x things) {
			twin(p, free[0], x.f)
			twin(p, free[3], x.f)
			p.add(x.b, api.Entry{Slot: free[3], Name: "twin"})
			p.add(x.b, api.Entry{Slot: free[0], Name: "other"})
		}, func(w *want, x things) {
			w.turn(x.b, "twin", func(e *api.Entry) { e.Slot = x.f })
			w.turn(x.b, "other", func(e *api.Entry) { e.Slot = x.f })
			w.links(x.f, 4)
			w.loses(free[0], free[3])
		}},
		edge{"that no entry names", func(p *paper, x things) { twin(p, free[0], x.f) }, func(w *want, x things) { w.loses(free[0]) }},
		edge{"a directory's that no entry names", func(p *paper, x things) { twin(p, free[0], x.a) }, func(w *want, x things) { w.loses(free[0]) }},
		edge{"a file of a link's number", func(p *paper, x things) {
			p.put(free[0], api.Inode{Kind: api.File, Links: 1, Id: p.thing(x.l).Id})
			p.add(x.b, api.Entry{Slot: free[0], Name: "twin"})
		}, func(w *want, x things) {
			w.turn(x.b, "twin", func(e *api.Entry) { *e = api.Entry{} })
			w.loses(free[0])
		}},
		edge{"a file of a directory's number", func(p *paper, x things) {
			p.put(free[0], api.Inode{Kind: api.File, Links: 1, Id: p.thing(x.c).Id})
			p.add(vol.Root, api.Entry{Slot: free[0], Name: "twin"})
		}, func(w *want, x things) { // it comes ahead of the directory
			w.turn(x.b, "c", func(e *api.Entry) { *e = api.Entry{} })
			w.kept = []int{vol.Root, x.a, x.f, x.b, x.deep, x.l, free[0], x.empty}
			w.lost = []int{x.c}
		}},
		edge{"a directory of a file's number", func(p *paper, x things) {
			p.put(free[0], dir(p.thing(x.f).Id))
			p.add(x.b, api.Entry{Slot: free[0], Name: "twin"})
		}, func(w *want, x things) {
			w.turn(x.b, "twin", func(e *api.Entry) { *e = api.Entry{} })
			w.loses(free[0])
		}},
		edge{"a directory's, behind it", func(p *paper, x things) {
			twin(p, free[0], x.a)
			p.add(x.b, api.Entry{Slot: free[0], Name: "twin"})
		}, func(w *want, x things) {
			w.turn(x.b, "twin", func(e *api.Entry) { *e = api.Entry{} })
			w.loses(free[0])
		}},
		edge{"a directory's, ahead of it", func(p *paper, x things) {
			twin(p, free[0], x.c)
			p.add(vol.Root, api.Entry{Slot: free[0], Name: "twin"})
		}, func(w *want, x things) {
			w.turn(x.b, "c", func(e *api.Entry) { *e = api.Entry{} })
			w.kept = []int{vol.Root, x.a, x.f, x.b, x.deep, x.l, free[0], x.empty}
			w.lost = []int{x.c}
		}},
		edge{"the root's", func(p *paper, x things) {
			twin(p, free[0], vol.Root)
			p.put(free[1], api.Inode{Kind: api.File, Id: 1})
			p.add(x.b, api.Entry{Slot: free[0], Name: "twin"})
			p.add(x.b, api.Entry{Slot: free[1], Name: "other"})
		}, func(w *want, x things) {
			w.turn(x.b, "twin", func(e *api.Entry) { *e = api.Entry{} })
			w.turn(x.b, "other", func(e *api.Entry) { *e = api.Entry{} })
			w.loses(free[0], free[1])
		}},
		edge{"a directory's, that waits", func(p *paper, x things) {
			twin(p, free[0], x.c)
			p.add(vol.Root, api.Entry{Slot: free[0], Leaving: true, Name: "twin"})
		}, func(w *want, x things) {
			w.turn(vol.Root, "twin", func(e *api.Entry) { *e = api.Entry{} })
			w.loses(free[0])
		}},
		edge{"two that wait", func(p *paper, x things) {
			p.put(free[0], dir(99))
			p.put(free[1], dir(99))
			p.add(vol.Root, api.Entry{Slot: free[1], Leaving: true, Name: "twin"})
			p.add(x.b, api.Entry{Slot: free[0], Leaving: true, Name: "other"})
		}, func(w *want, x things) {
			w.turn(vol.Root, "twin", func(e *api.Entry) { e.Leaving = false })
			w.turn(x.b, "other", func(e *api.Entry) { *e = api.Entry{} })
			w.kept = append(w.kept, free[1])
			w.loses(free[0])
		}},
		edge{"two that wait, and a third one", func(p *paper, x things) {
			for _, slot := range free[:3] {
				p.put(slot, dir(99))
			}
			p.add(vol.Root, api.Entry{Slot: free[0], Leaving: true, Name: "twin"})
			p.add(vol.Root, api.Entry{Slot: free[1], Leaving: true, Name: "other"})
			p.add(x.b, api.Entry{Slot: free[2], Name: "third"})
		}, func(w *want, x things) {
			w.turn(vol.Root, "twin", func(e *api.Entry) { *e = api.Entry{} })
			w.turn(vol.Root, "other", func(e *api.Entry) { *e = api.Entry{} })
			w.kept = append(w.kept, free[2])
			w.loses(free[0], free[1])
		}},
	)
}

// many is a volume with a file that has MaxLinks names in the directory "a", and a spare entry in the root, "more", that names nothing yet; it answers the file's slot, and the slots of three that have none.
func many(t *testing.T) (p *paper, file int, none []int) {
	t.Helper()
	g := api.Geo{Group: 128, Inodes: 8, Groups: 3}
	d := formatted(t, geo.Size(g), g)
	f, e := fs.Mount(d)
	calls(t, e, f.Mkdir("/a"), f.Create("/a/f"))
	for n := range api.MaxLinks - 1 {
		calls(t, f.Link("/a/f", fmt.Sprint("/a/", n)))
	}
	calls(t, f.Create("/more"), f.Mkdir("/z"), f.Create("/z/one"), f.Create("/z/two"))
	_, e = sync.New(f).Sync()
	calls(t, e)
	way, e := f.Nodes().Tree().Walk("/a/f", false)
	calls(t, e)
	return paperOf(t, d, g), way[2], []int{20, 21, 22}
}

// P27.1: a file with MaxLinks names has no more: neither by its own slot, nor by a twin's.
func TestManyLinks(t *testing.T) {
	base, file, none := many(t)
	d := base.disk()
	of := func(name string) int {
		b, at := base.place(vol.Root, name)
		e := base.at(b)[at*32:]
		return int(e[0]) | int(e[1])<<8
	}
	more, z := of("more"), of("z")
	whole := read(t, "many", d)
	if i, _ := whole.Thing(file); i.Links != api.MaxLinks || len(whole.Lost()) != 0 {
		t.Fatal("many", i, whole.Lost())
	}
	for _, c := range []struct {
		name string
		edit func(p *paper)
		kept bool // the name "one" in z, that is turned
		lost []int
	}{
		{"one more", func(p *paper) { p.turn(z, "one", func(e *api.Entry) { e.Slot = file }) }, false, nil},
		{"one more, Leaving", func(p *paper) { p.turn(z, "one", func(e *api.Entry) { e.Slot, e.Leaving = file, true }) }, false, nil},
		{"a twin's", func(p *paper) {
			p.put(none[0], p.thing(file))
			p.turn(z, "one", func(e *api.Entry) { e.Slot = none[0] })
		}, false, none[:1]},
		{"one more, and one less", func(p *paper) {
			p.turn(z, "one", func(e *api.Entry) { e.Slot = file })
			b, at := p.place(2, "1")
			p.entry(b, at, api.Entry{})
		}, true, nil},
		{"a twin's, and one less", func(p *paper) {
			p.put(none[0], p.thing(file))
			p.turn(z, "one", func(e *api.Entry) { e.Slot = none[0] })
			b, at := p.place(2, "1")
			p.entry(b, at, api.Entry{})
		}, true, none[:1]},
	} {
		p := paperOf(t, d, base.geo)
		one, _ := scan.Read(p.disk())
		was := one.Kept()
		b, at := p.place(z, "one")
		slot := int(p.at(b)[at*32]) | int(p.at(b)[at*32+1])<<8
		c.edit(p)
		s := read(t, c.name, p.disk())
		must := make([]byte, 32)
		if c.kept {
			p.turn(z, "one", func(e *api.Entry) { e.Slot, e.Leaving = file, false })
			copy(must, p.at(b)[at*32:])
		}
		if got := s.Block(b)[at*32 : at*32+32]; !bytes.Equal(got, must) {
			t.Errorf("%s: the entry is %x, not %x", c.name, got, must)
		}
		if i, _ := s.Thing(file); i.Links != api.MaxLinks {
			t.Errorf("%s: %d links", c.name, i.Links)
		}
		was = slices.DeleteFunc(was, func(k int) bool { return k == slot })
		lost := append([]int{slot}, c.lost...)
		slices.Sort(lost)
		if !slices.Equal(s.Kept(), was) || !slices.Equal(s.Lost(), lost) {
			t.Errorf("%s: kept are %v, not %v, lost %v, not %v", c.name, s.Kept(), was, s.Lost(), lost)
		}
	}
	// with all names of the twin, that is come to first
	p := paperOf(t, d, base.geo)
	p.put(none[0], p.thing(file))
	p.turn(vol.Root, "more", func(e *api.Entry) { e.Slot = none[0] })
	s := read(t, "the twin first", p.disk())
	if i, ok := s.Thing(none[0]); !ok || i.Links != api.MaxLinks {
		t.Errorf("the twin first: %v, %t", i, ok)
	}
	if lost := s.Lost(); !slices.Equal(lost, []int{file, more}) {
		t.Errorf("the twin first: lost are %v", lost)
	}
	left := 0
	for b := range p.disk().Len() {
		if s.Owner(b) != 2 || b == p.thing(2).In || b == p.thing(2).Din {
			continue
		}
		list := s.Block(b)
		for at := range api.PerDir {
			if list[at*32] == byte(none[0]) {
				left++
			}
		}
	}
	if left != api.MaxLinks-1 {
		t.Errorf("the twin first: %d names in a", left)
	}
}
