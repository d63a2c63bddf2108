package grow_test

import (
	"bytes"
	"fmt"
	"math"
	"strings"
	"testing"

	"levee/alloc"
	"levee/api"
	"levee/disk"
	"levee/file"
	"levee/fs"
	"levee/geo"
	"levee/grow"
	"levee/imove"
	"levee/move"
	"levee/patch"
	"levee/super"
	"levee/sync"
	"levee/vol"
)

// What each group of most volumes here gives: 24 blocks but its header and its table, and 8 slots.
const (
	perBlocks = 21
	perSlots  = 8
)

// wrong are numbers of groups that no volume can have.
var wrong = []int{math.MinInt, math.MinInt + 1, -1 << 40, -17, -2, -1, 0, 17, 18, 4096, 1 << 32, 1<<32 + 3, math.MaxInt - 1, math.MaxInt}

// shape is that of most volumes here.
func shape(groups int) api.Geo {
	return api.Geo{Group: 24, Inodes: 8, Groups: groups}
}

func answers(t *testing.T, what string, got, want api.Errno) {
	t.Helper()
	if got != want {
		t.Errorf("%s: %d, not %d", what, got, want)
	}
}

// formatted is a disk of so many blocks, that were all written over, with a new volume.
func formatted(t *testing.T, blocks int, g api.Geo) *disk.Disk {
	t.Helper()
	d, _ := disk.Load(bytes.Repeat([]byte{0xee}, blocks*api.Block))
	answers(t, "Format", vol.Format(d, g), api.OK)
	return d
}

// mounted is what makes the volume of a disk larger.
func mounted(t *testing.T, d *disk.Disk) *grow.Grow {
	t.Helper()
	f, e := fs.Mount(d)
	x := imove.New(move.New(sync.New(f)))
	g := grow.New(x)
	if e != api.OK || g == nil || g.Slots() != x {
		t.Fatal("Mount", e)
	}
	return g
}

// fresh is a new volume of so many groups, on a disk that has room for so many, its file system and what makes it larger.
func fresh(t *testing.T, groups, room int) (*disk.Disk, *fs.Fs, *grow.Grow) {
	t.Helper()
	d := formatted(t, geo.Size(shape(room)), shape(groups))
	g := mounted(t, d)
	return d, system(g), g
}

func system(g *grow.Grow) *fs.Fs { return g.Slots().Mover().Sync().Fs() }

func files(g *grow.Grow) *file.Files { return system(g).Nodes().Tree().Dirs().Files() }

func taken(g *grow.Grow) *alloc.Alloc { return files(g).Alloc() }

func volume(g *grow.Grow) *vol.Vol { return taken(g).Vol() }

func store(g *grow.Grow) *patch.Store { return volume(g).Store() }

func syncs(t *testing.T, g *grow.Grow) {
	t.Helper()
	if n, e := g.Slots().Mover().Sync().Sync(); e != api.OK || !g.Slots().Mover().Sync().Quiet() {
		t.Errorf("Sync: %d, %d", n, e)
	}
}

// slot is where a path's thing stands.
func slot(t *testing.T, g *grow.Grow, path string) int {
	t.Helper()
	way, e := system(g).Nodes().Tree().Walk(path, false)
	if e != api.OK {
		t.Fatal("Walk", path, e)
	}
	return way[len(way)-1]
}

// opened makes a file with some bytes, and opens it.
func opened(t *testing.T, f *fs.Fs, path, text string) int {
	t.Helper()
	answers(t, "Create", f.Create(path), api.OK)
	fd, e := f.Open(path)
	answers(t, "Open", e, api.OK)
	answers(t, "Write", f.Write(fd, 0, []byte(text)), api.OK)
	return fd
}

// steps holds what a Step answers.
func steps(t *testing.T, g *grow.Grow, over bool, want api.Errno) {
	t.Helper()
	if o, e := g.Step(); o != over || e != want {
		t.Errorf("Step: %t, %d, not %t, %d", o, e, over, want)
	}
}

// target holds how many groups there are to be.
func target(t *testing.T, g *grow.Grow, want int) {
	t.Helper()
	if n := g.Target(); n != want {
		t.Errorf("Target: %d, not %d", n, want)
	}
}

// is holds the volume's shape and generation, as it is in memory and as it would be behind a crash.
func is(t *testing.T, d *disk.Disk, g *grow.Grow, groups int, gen int64) {
	t.Helper()
	if v := volume(g); v.Geo() != shape(groups) || v.Gen() != gen {
		t.Errorf("it is %v, %d, not of %d groups, %d", v.Geo(), v.Gen(), groups, gen)
	}
	c := d.Copy()
	c.Crash(nil)
	if v, e := vol.Mount(c); e != api.OK || v.Geo() != shape(groups) || v.Gen() != gen {
		t.Errorf("on the disk it is %v, %d, %d, not of %d groups, %d", v.Geo(), v.Gen(), e, groups, gen)
	}
}

// free holds what is free.
func free(t *testing.T, g *grow.Grow, blocks, slots int) {
	t.Helper()
	if b, s := system(g).Free(); b != blocks || s != slots {
		t.Errorf("Free: %d, %d, not %d, %d", b, s, blocks, slots)
	}
}

// same holds that a call changes nothing at all.
func same(t *testing.T, d *disk.Disk, g *grow.Grow, what string, call func()) {
	t.Helper()
	was, open, work, target := d.Bytes(), store(g).Open(), volume(g).Work().Len(), g.Target()
	of, gen := volume(g).Geo(), volume(g).Gen()
	call()
	if !bytes.Equal(d.Bytes(), was) || store(g).Open() != open || volume(g).Work().Len() != work || g.Target() != target || volume(g).Geo() != of || volume(g).Gen() != gen {
		t.Errorf("%s changed something", what)
	}
}

// Of nil, and of nothing that moves things.
func TestNil(t *testing.T) {
	if grow.New(nil) != nil || grow.New(new(imove.Slots)) != nil || grow.New(imove.New(nil)) != nil || grow.New(imove.New(new(move.Mover))) != nil {
		t.Error("New of nothing that moves things")
	}
	for what, g := range map[string]*grow.Grow{"nil": nil, "one that was not made": new(grow.Grow)} {
		if g.Slots() != nil {
			t.Errorf("Slots of %s", what)
		}
		for _, n := range append(wrong, 1, 2, 3, 16) {
			answers(t, "Begin of "+what, g.Begin(n), api.ErrNil)
		}
		steps(t, g, false, api.ErrNil)
		target(t, g, 0)
	}
}

// The example of the chapter.
func TestExample(t *testing.T) {
	d, _, g := fresh(t, 2, 3)
	is(t, d, g, 2, 1)
	answers(t, "Begin", g.Begin(3), api.OK)
	target(t, g, 3)
	steps(t, g, false, api.OK)
	target(t, g, 3)
	is(t, d, g, 2, 1)
	steps(t, g, true, api.OK)
	target(t, g, 0)
	is(t, d, g, 3, 2)
}

// P23.1: numbers that can not be, and those that are no more, ahead of what the disk has no room for. What is refused changes nothing.
func TestBeginRefused(t *testing.T) {
	for _, groups := range []int{1, 2, 7, 15, 16} {
		for _, room := range []int{groups, 16} {
			d, f, g := fresh(t, groups, room)
			opened(t, f, "/f", "hello")
			refused := func(n int, want api.Errno) {
				t.Helper()
				same(t, d, g, fmt.Sprintf("Begin(%d)", n), func() {
					answers(t, fmt.Sprintf("Begin(%d) of %d groups", n, groups), g.Begin(n), want)
				})
				target(t, g, 0)
				steps(t, g, false, api.ErrState)
			}
			for _, n := range wrong {
				refused(n, api.ErrArg)
			}
			for n := 1; n <= groups; n++ {
				refused(n, api.ErrArg)
			}
			for n := room + 1; n <= api.MaxGroups; n++ {
				refused(n, api.ErrSize)
			}
			if groups < room {
				answers(t, "Begin", g.Begin(room), api.OK)
				target(t, g, room)
			}
		}
	}
}

// P23.1: a disk that is just large enough, one with a block fewer, and one with a block more.
func TestDiskSize(t *testing.T) {
	for to := 2; to <= api.MaxGroups; to++ {
		for more := -1; more <= 1; more++ {
			d := formatted(t, geo.Size(shape(to))+more, shape(1))
			g := mounted(t, d)
			if more < 0 {
				same(t, d, g, "Begin", func() { answers(t, "Begin", g.Begin(to), api.ErrSize) })
				continue
			}
			answers(t, "Begin", g.Begin(to), api.OK)
			steps(t, g, false, api.OK)
			steps(t, g, true, api.OK)
			is(t, d, g, to, 2)
			free(t, g, to*perBlocks, to*perSlots-2)
		}
	}
}

// P23.1: with something under way nothing begins, whatever the number; without, there is no step.
func TestState(t *testing.T) {
	d, _, g := fresh(t, 2, 5)
	busy := func(of int) {
		t.Helper()
		for _, n := range append(wrong, 1, 2, 3, 4, 5, 6, 16) {
			same(t, d, g, "Begin", func() { answers(t, "Begin", g.Begin(n), api.ErrState) })
		}
		target(t, g, of)
	}
	idle := func() {
		t.Helper()
		for range 3 {
			same(t, d, g, "Step", func() { steps(t, g, false, api.ErrState) })
		}
		target(t, g, 0)
	}
	idle()
	gen := int64(1)
	for _, to := range []int{4, 5} {
		answers(t, "Begin", g.Begin(to), api.OK)
		busy(to)
		steps(t, g, false, api.OK)
		busy(to)
		steps(t, g, true, api.OK)
		idle()
		gen++
		is(t, d, g, to, gen)
	}
}

// Begin itself writes nothing, and changes nothing but the Target.
func TestBegin(t *testing.T) {
	d, f, g := fresh(t, 2, 4)
	opened(t, f, "/f", "hello")
	was, open := d.Bytes(), store(g).Open()
	blocks, slots := f.Free()
	answers(t, "Begin", g.Begin(4), api.OK)
	if !bytes.Equal(d.Bytes(), was) || store(g).Open() != open {
		t.Error("Begin changed something")
	}
	free(t, g, blocks, slots)
	is(t, d, g, 2, 1)
}

// differ lists the blocks that are not the same.
func differ(a, b []byte) []int {
	var some []int
	for at := 0; at < len(a); at += api.Block {
		if !bytes.Equal(a[at:at+api.Block], b[at:at+api.Block]) {
			some = append(some, at/api.Block)
		}
	}
	return some
}

// P23.1: the first step makes the headers and tables of the groups more as Format does, and makes that safe; the second one writes the next superblock, and that is safe. Nothing else is written.
func TestWhatIsWritten(t *testing.T) {
	for to := 3; to <= 6; to++ {
		d, _, g := fresh(t, 2, 6)
		was := d.Bytes()
		like := formatted(t, d.Len(), shape(to)).Bytes()
		answers(t, "Begin", g.Begin(to), api.OK)
		steps(t, g, false, api.OK)
		if len(d.Open()) != 0 || store(g).Open() != 0 {
			t.Error("the first step leaves something that is not safe")
		}
		for b := range d.Len() {
			want := was[b*api.Block : (b+1)*api.Block]
			if _, k := geo.Kind(shape(to), b); k >= 2 {
				want = like[b*api.Block : (b+1)*api.Block]
			}
			if now, _ := d.Safe(b); !bytes.Equal(now, want) {
				t.Errorf("behind the first step the block %d is %x, not %x", b, now, want)
			}
		}
		prepared := d.Bytes()
		steps(t, g, true, api.OK)
		if some := differ(prepared, d.Bytes()); fmt.Sprint(some) != "[0]" || len(d.Open()) != 0 {
			t.Errorf("the second step wrote %v", some)
		}
		block, _ := d.Safe(0)
		if s, e := super.Get(block); s != (super.Super{Gen: 2, Geo: shape(to)}) || e != api.OK {
			t.Errorf("the superblock is %v, %d", s, e)
		}
	}
}

// P23.2: each group more gives all its data blocks and slots, no one of them ahead of the second step, and nothing else is free by it: not what was given, and waits.
func TestFree(t *testing.T) {
	for to := 3; to <= 6; to++ {
		d, f, g := fresh(t, 2, 6)
		fd := opened(t, f, "/f", strings.Repeat("f", 1000))
		syncs(t, g)
		answers(t, "Truncate", f.Truncate(fd, 0), api.OK)
		blocks, slots := f.Free()
		answers(t, "Begin", g.Begin(to), api.OK)
		steps(t, g, false, api.OK)
		free(t, g, blocks, slots)
		if _, _, e := taken(g).Used(2); e != api.ErrRange {
			t.Errorf("a group that is prepared is there: %d", e)
		}
		steps(t, g, true, api.OK)
		free(t, g, blocks+(to-2)*perBlocks, slots+(to-2)*perSlots)
		for k := 2; k < to; k++ {
			if b, s, e := taken(g).Used(k); b != 0 || s != 0 || e != api.OK || taken(g).Frozen(k) {
				t.Errorf("Used(%d): %d, %d, %d", k, b, s, e)
			}
		}
		syncs(t, g)
		free(t, g, blocks+4+(to-2)*perBlocks, slots+(to-2)*perSlots)
		all := (to-2)*perBlocks + blocks + 4
		for n := range all {
			if _, _, e := taken(g).Block(0); e != api.OK {
				t.Fatalf("only %d of %d blocks can be taken", n, all)
			}
		}
		if _, _, e := taken(g).Block(0); e != api.ErrSpace {
			t.Errorf("Block: %d", e)
		}
		is(t, d, g, to, 2)
	}
}

// P23.2: a volume that is full, without a block or a slot, gets larger, and has room.
func TestFull(t *testing.T) {
	_, f, g := fresh(t, 1, 3)
	fd := opened(t, f, "/f", strings.Repeat("f", 10*api.Block))
	for off := int64(10); f.Write(fd, off*api.Block, []byte("f")) == api.OK; off++ {
	}
	for {
		if _, _, e := taken(g).Block(0); e != api.OK {
			break
		}
	}
	for {
		if _, _, e := taken(g).Slot(0); e != api.OK {
			break
		}
	}
	free(t, g, 0, 0)
	was := tells(t, g)
	answers(t, "Begin", g.Begin(3), api.OK)
	steps(t, g, false, api.OK)
	answers(t, "Create", f.Create("/g"), api.ErrSpace)
	steps(t, g, true, api.OK)
	if now := tells(t, g); now != was {
		t.Errorf("it tells\n%s\nnot\n%s", now, was)
	}
	free(t, g, 2*perBlocks, 2*perSlots)
	opened(t, f, "/g", strings.Repeat("g", 3000))
	if at := slot(t, g, "/g"); at < perSlots {
		t.Errorf("/g is in the slot %d", at)
	}
	syncs(t, g)
}

// P23.2 (P1): calls between the steps answer as ever, and what they did stays; so do blocks and things that are moved, into the new groups too.
func TestCallsBetween(t *testing.T) {
	d, f, g := fresh(t, 2, 4)
	fd := opened(t, f, "/f", strings.Repeat("f", 2000))
	answers(t, "Mkdir", f.Mkdir("/a"), api.OK)
	answers(t, "Begin", g.Begin(4), api.OK)
	answers(t, "Create", f.Create("/a/x"), api.OK)
	answers(t, "Unlink", f.Unlink("/f"), api.OK)
	steps(t, g, false, api.OK)
	answers(t, "Rename", f.Rename("/a/x", "/y"), api.OK)
	answers(t, "Symlink", f.Symlink("/y", "/a/l"), api.OK)
	answers(t, "Write", f.Write(fd, 1500, []byte(strings.Repeat("g", 1000))), api.OK)
	was := tells(t, g)
	open := store(g).Open()
	steps(t, g, true, api.OK)
	if now := tells(t, g); now != was || store(g).Open() != open {
		t.Errorf("it tells\n%s\nnot\n%s", now, was)
	}
	for _, b := range g.Slots().Mover().Blocks(0) {
		if to, e := g.Slots().Mover().Block(b, 60); e != api.OK || to < 50 {
			t.Errorf("Block(%d): %d, %d", b, to, e)
		}
	}
	for _, path := range []string{"/a", "/y", "/a/l"} {
		if to, e := g.Slots().Move(slot(t, g, path), 24); e != api.OK || to < 24 {
			t.Errorf("Move: %d, %d", to, e)
		}
	}
	if now := tells(t, g); now != was {
		t.Errorf("it tells\n%s\nnot\n%s", now, was)
	}
	answers(t, "Close", f.Close(fd), api.OK)
	syncs(t, g)
	was = tells(t, g)
	d.Crash(nil)
	if now := tells(t, mounted(t, d)); now != was {
		t.Errorf("behind a crash it tells\n%s\nnot\n%s", now, was)
	}
}

// P23.1: an error of vol's ends it: the greatest Gen has no next one.
func TestGreatestGen(t *testing.T) {
	d := formatted(t, geo.Size(shape(4)), shape(2))
	last, e := super.Put(super.Super{Gen: 1 << 62, Geo: shape(2)})
	answers(t, "Put", e, api.OK)
	d.Write(0, last)
	d.Flush()
	g := mounted(t, d)
	for range 2 {
		answers(t, "Begin", g.Begin(4), api.OK)
		steps(t, g, false, api.OK)
		steps(t, g, true, api.ErrArg)
		target(t, g, 0)
		steps(t, g, false, api.ErrState)
		is(t, d, g, 2, 1<<62)
	}
}

// enlarged makes the volume larger, beside what is under way.
func enlarged(t *testing.T, g *grow.Grow, to int) {
	t.Helper()
	other := grow.New(g.Slots())
	target(t, other, 0)
	answers(t, "Begin", other.Begin(to), api.OK)
	steps(t, other, false, api.OK)
	steps(t, other, true, api.OK)
}

// P23.1, P23.2: of two that are made of one volume each has a way of its own; what the other one made larger still is not made smaller, and an error ends it.
func TestTwo(t *testing.T) {
	for done := range 2 {
		for _, other := range []int{3, 4, 5} {
			d, f, g := fresh(t, 2, 5)
			answers(t, "Begin", g.Begin(4), api.OK)
			for range done {
				steps(t, g, false, api.OK)
			}
			enlarged(t, g, other)
			opened(t, f, "/f", strings.Repeat("f", 70*api.Block/10))
			for _, b := range g.Slots().Mover().Blocks(0) {
				g.Slots().Mover().Block(b, 2+24*(other-1)+5)
			}
			was := tells(t, g)
			if other > 4 {
				steps(t, g, true, api.ErrArg)
				is(t, d, g, 5, 2)
			} else {
				for range 1 - done {
					steps(t, g, false, api.OK)
				}
				steps(t, g, true, api.OK)
				is(t, d, g, 4, 3)
			}
			target(t, g, 0)
			if now := tells(t, g); now != was {
				t.Errorf("it tells\n%s\nnot\n%s", now, was)
			}
			syncs(t, g)
		}
	}
}

// Other shapes: the least groups, and the greatest volume.
func TestShapes(t *testing.T) {
	for _, c := range []struct {
		of   api.Geo
		to   int
		size int
	}{
		{api.Geo{Group: 16, Inodes: 4, Groups: 1}, 2, 34},
		{api.Geo{Group: 16, Inodes: 44, Groups: 3}, 4, 66},
		{api.Geo{Group: 128, Inodes: 64, Groups: 1}, 16, 2050},
		{api.Geo{Group: 128, Inodes: 4, Groups: 15}, 16, 4096},
	} {
		d := formatted(t, c.size, c.of)
		g := mounted(t, d)
		blocks, slots := system(g).Free()
		answers(t, "Begin", g.Begin(c.to), api.OK)
		steps(t, g, false, api.OK)
		steps(t, g, true, api.OK)
		free(t, g, blocks/c.of.Groups*c.to, (slots+2)/c.of.Groups*c.to-2)
		if v, e := vol.Mount(d); e != api.OK || v.Geo().Groups != c.to || v.Gen() != 2 {
			t.Errorf("Mount: %v, %d", v.Geo(), e)
		}
	}
}

// What stood on the disk where the groups come to be plays no part: what a larger volume left there neither.
func TestOldBytes(t *testing.T) {
	d, f, g := fresh(t, 4, 4)
	opened(t, f, "/f", "hello")
	for k := range 4 {
		for range 5 {
			taken(g).Block(2 + 24*k + 5)
			taken(g).Slot(8 * k)
		}
	}
	syncs(t, g)
	if to, e := g.Slots().Move(2, 30); to != 31 || e != api.OK {
		t.Fatal("Move", to, e)
	}
	answers(t, "Format", vol.Format(d, shape(1)), api.OK)
	g = mounted(t, d)
	enlarged(t, g, 4)
	free(t, g, 4*perBlocks, 4*perSlots-2)
	for slot := 2; slot < 4*perSlots; slot++ {
		if i, e := volume(g).Inode(slot); i != (api.Inode{}) || e != api.OK {
			t.Errorf("Inode(%d): %v, %d", slot, i, e)
		}
	}
}
