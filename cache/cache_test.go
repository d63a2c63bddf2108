package cache_test

import (
	"bytes"
	"math"
	"slices"
	"testing"

	"levee/api"
	"levee/cache"
	"levee/disk"
)

// outside are numbers that no block of a disk of four has.
var outside = []int{math.MinInt, -257, -1, 4, 5, api.MaxBlocks, math.MaxInt}

// sizes are lengths that no block has, and that are not none.
var sizes = []int{1, 2, 255, 257, 512, 4096}

// fill is a block whose every byte is told by c and its place.
func fill(c byte) []byte {
	b := make([]byte, api.Block)
	for i := range b {
		b[i] = c ^ byte(i)*7
	}
	return b
}

// filled is a disk of n blocks whose b-th one is fill(b), safely.
func filled(t *testing.T, n int) *disk.Disk {
	t.Helper()
	var all []byte
	for b := range n {
		all = append(all, fill(byte(b))...)
	}
	d, e := disk.Load(all)
	if e != api.OK {
		t.Fatal("Load", e)
	}
	return d
}

// fresh is a cache of at most so many blocks on such a disk of four.
func fresh(t *testing.T, most int) (*cache.Cache, *disk.Disk) {
	t.Helper()
	d := filled(t, 4)
	c, e := cache.New(d, most)
	if e != api.OK || c == nil {
		t.Fatal("New", c, e)
	}
	return c, d
}

func answers(t *testing.T, what string, got, want api.Errno) {
	t.Helper()
	if got != want {
		t.Errorf("%s: %d, not %d", what, got, want)
	}
}

func reads(t *testing.T, c *cache.Cache, b int, want byte) {
	t.Helper()
	if got, e := c.Read(b); e != api.OK || !bytes.Equal(got, fill(want)) {
		t.Errorf("Read(%d): %x, %d, not fill(%d)", b, got, e, want)
	}
}

func refuses(t *testing.T, c *cache.Cache, b int, want api.Errno) {
	t.Helper()
	if got, e := c.Read(b); e != want || len(got) != 0 {
		t.Errorf("Read(%d): %x, %d, not %d", b, got, e, want)
	}
}

func stands(t *testing.T, d *disk.Disk, b int, want byte) {
	t.Helper()
	if got, e := d.Read(b); e != api.OK || !bytes.Equal(got, fill(want)) {
		t.Errorf("on the disk block %d is %x, %d, not fill(%d)", b, got, e, want)
	}
}

func held(t *testing.T, c *cache.Cache, want ...int) {
	t.Helper()
	if got := c.Held(); !slices.Equal(got, want) {
		t.Errorf("Held: %v, not %v", got, want)
	}
}

func dirty(t *testing.T, c *cache.Cache, want ...int) {
	t.Helper()
	if got := c.Dirty(); !slices.Equal(got, want) {
		t.Errorf("Dirty: %v, not %v", got, want)
	}
}

// P10.1: no disk is named ahead of how many blocks can not be; nothing is in memory.
func TestNew(t *testing.T) {
	wrong := []int{math.MinInt, -4096, -1, 0, api.MaxBlocks + 1, 2 * api.MaxBlocks, math.MaxInt32, math.MaxInt}
	for _, most := range append([]int{1, 2, api.MaxBlocks}, wrong...) {
		if c, e := cache.New(nil, most); c != nil || e != api.ErrNil {
			t.Errorf("New(nil, %d): %v, %d", most, c, e)
		}
	}
	for _, most := range wrong {
		if c, e := cache.New(filled(t, 4), most); c != nil || e != api.ErrArg {
			t.Errorf("New(%d): %v, %d", most, c, e)
		}
	}
	for _, most := range []int{1, 2, 3, 4, 5, api.MaxBlocks - 1, api.MaxBlocks} {
		c, d := fresh(t, most)
		held(t, c)
		dirty(t, c)
		if len(d.Open()) != 0 {
			t.Error("New wrote", d.Open())
		}
	}
}

// The largest disk in the largest memory: all of it is there, and none of it goes.
func TestAllOfTheLargestDisk(t *testing.T) {
	d, _ := disk.New(api.MaxBlocks)
	c, _ := cache.New(d, api.MaxBlocks)
	var all []int
	for b := range api.MaxBlocks {
		answers(t, "Lay", c.Lay(b, fill(byte(b))), api.OK)
		all = append(all, b)
	}
	held(t, c, all...)
	dirty(t, c, all...)
	reads(t, c, 0, 0)
	held(t, c, append(all[1:], 0)...)
}

// Promises' heading: of nil ErrNil, and none. A cache that New did not make has no blocks, and does not panic.
func TestNoCache(t *testing.T) {
	var c *cache.Cache
	for _, b := range append([]int{0, 1}, outside...) {
		refuses(t, c, b, api.ErrNil)
		for _, data := range [][]byte{nil, {1}, fill(1)} {
			answers(t, "Lay of nil", c.Lay(b, data), api.ErrNil)
			answers(t, "Write of nil", c.Write(b, data), api.ErrNil)
		}
		answers(t, "Pin of nil", c.Pin(b), api.ErrNil)
		answers(t, "Unpin of nil", c.Unpin(b), api.ErrNil)
		answers(t, "Drop of nil", c.Drop(b), api.ErrNil)
	}
	answers(t, "Flush of nil", c.Flush(), api.ErrNil)
	held(t, c)
	dirty(t, c)
	c = new(cache.Cache)
	if _, e := c.Read(0); e == api.OK || c.Lay(0, fill(1)) == api.OK || c.Write(0, nil) == api.OK || c.Pin(0) == api.OK || c.Unpin(0) == api.OK || c.Drop(0) == api.OK || c.Flush() == api.OK {
		t.Error("calls of a cache without a disk")
	}
	held(t, c)
	dirty(t, c)
}

// P10.1: blocks that the disk has not; ErrRange is named ahead of ErrSize, this ahead of ErrFull. What is refused changes nothing.
func TestRefused(t *testing.T) {
	c, d := fresh(t, 2)
	reads(t, c, 0, 0)
	answers(t, "Lay", c.Lay(1, fill(90)), api.OK)
	answers(t, "Pin", c.Pin(0), api.OK)
	for _, b := range outside {
		refuses(t, c, b, api.ErrRange)
		for _, data := range [][]byte{nil, {}, {1}, fill(1), make([]byte, 257)} {
			answers(t, "Lay outside", c.Lay(b, data), api.ErrRange)
			answers(t, "Write outside", c.Write(b, data), api.ErrRange)
		}
		answers(t, "Pin outside", c.Pin(b), api.ErrNone)
		answers(t, "Unpin outside", c.Unpin(b), api.ErrNone)
		answers(t, "Drop outside", c.Drop(b), api.ErrNone)
	}
	for b := range 4 {
		for _, n := range sizes {
			answers(t, "Lay of another length", c.Lay(b, make([]byte, n, 512+n)), api.ErrSize)
			answers(t, "Write of another length", c.Write(b, make([]byte, n, 512+n)), api.ErrSize)
		}
		answers(t, "Lay of nil bytes", c.Lay(b, nil), api.ErrSize)
		answers(t, "Lay of no bytes", c.Lay(b, []byte{}), api.ErrSize)
	}
	for _, b := range []int{2, 3} {
		refuses(t, c, b, api.ErrFull)
		answers(t, "Lay into a full cache", c.Lay(b, fill(1)), api.ErrFull)
		answers(t, "Write into a full cache", c.Write(b, fill(1)), api.ErrFull)
		answers(t, "Write of no bytes into a full cache", c.Write(b, nil), api.ErrFull)
		answers(t, "Pin of one that is not there", c.Pin(b), api.ErrNone)
		answers(t, "Unpin of one that is not there", c.Unpin(b), api.ErrNone)
		answers(t, "Drop of one that is not there", c.Drop(b), api.ErrNone)
	}
	held(t, c, 0, 1)
	dirty(t, c, 1)
	if len(d.Open()) != 0 {
		t.Error("refused calls wrote", d.Open())
	}
	reads(t, c, 0, 0)
	reads(t, c, 1, 90)
}

// Words: Read, Lay and Write ask, whether the block is there or comes; nothing else does.
func TestOrder(t *testing.T) {
	c, _ := fresh(t, 2)
	for _, b := range []int{1, 2, 1, 3} {
		reads(t, c, b, byte(b))
	}
	held(t, c, 1, 3)
	c, _ = fresh(t, 3)
	reads(t, c, 0, 0)
	answers(t, "Lay", c.Lay(1, fill(1)), api.OK)
	answers(t, "Write", c.Write(2, nil), api.OK)
	held(t, c, 0, 1, 2)
	reads(t, c, 0, 0)
	held(t, c, 1, 2, 0)
	answers(t, "Lay", c.Lay(1, fill(1)), api.OK)
	held(t, c, 2, 0, 1)
	answers(t, "Write", c.Write(2, fill(2)), api.OK)
	held(t, c, 0, 1, 2)
	answers(t, "Pin", c.Pin(0), api.OK)
	answers(t, "Unpin", c.Unpin(0), api.OK)
	answers(t, "Unpin", c.Unpin(0), api.ErrState)
	answers(t, "Lay", c.Lay(0, nil), api.ErrSize)
	answers(t, "Write", c.Write(0, []byte{1}), api.ErrSize)
	answers(t, "Flush", c.Flush(), api.OK)
	dirty(t, c)
	held(t, c, 0, 1, 2)
	reads(t, c, 2, 2)
	held(t, c, 0, 1, 2)
	reads(t, c, 3, 3)
	held(t, c, 1, 2, 3)
	answers(t, "Drop", c.Drop(2), api.OK)
	held(t, c, 1, 3)
	reads(t, c, 0, 0)
	held(t, c, 1, 3, 0)
}

// P10.4: the oldest that may go goes, also if older ones may not; one that is pinned and dirty must be both no more.
func TestWhoGoes(t *testing.T) {
	c, _ := fresh(t, 3)
	reads(t, c, 0, 0)
	reads(t, c, 1, 1)
	reads(t, c, 2, 2)
	answers(t, "Pin", c.Pin(0), api.OK)
	reads(t, c, 3, 3)
	held(t, c, 0, 2, 3)
	answers(t, "Lay", c.Lay(0, fill(80)), api.OK)
	answers(t, "Lay", c.Lay(2, fill(82)), api.OK)
	held(t, c, 3, 0, 2)
	answers(t, "Lay", c.Lay(1, fill(81)), api.OK)
	held(t, c, 0, 2, 1)
	dirty(t, c, 0, 1, 2)
	refuses(t, c, 3, api.ErrFull)
	answers(t, "Write", c.Write(0, nil), api.OK)
	dirty(t, c, 1, 2)
	refuses(t, c, 3, api.ErrFull) // 0 is pinned still
	answers(t, "Lay", c.Lay(0, fill(70)), api.OK)
	answers(t, "Unpin", c.Unpin(0), api.OK)
	refuses(t, c, 3, api.ErrFull) // and now dirty still
	answers(t, "Write", c.Write(0, nil), api.OK)
	reads(t, c, 3, 3)
	held(t, c, 2, 1, 3)
	reads(t, c, 0, 70)
	held(t, c, 2, 1, 0)
}

// P10.2: pinned as often as Pin was called more than Unpin; who went out of memory comes without pins.
func TestPins(t *testing.T) {
	c, _ := fresh(t, 1)
	answers(t, "Pin of one that is not there", c.Pin(0), api.ErrNone)
	reads(t, c, 0, 0)
	answers(t, "Unpin of one that is not pinned", c.Unpin(0), api.ErrState)
	for pins := range 5 {
		for range pins {
			answers(t, "Pin", c.Pin(0), api.OK)
		}
		for range pins {
			answers(t, "Drop of a pinned one", c.Drop(0), api.ErrBusy)
			refuses(t, c, 1, api.ErrFull)
			held(t, c, 0)
			answers(t, "Unpin", c.Unpin(0), api.OK)
		}
		answers(t, "Unpin of one that is not pinned", c.Unpin(0), api.ErrState)
	}
	reads(t, c, 1, 1)
	held(t, c, 1)
	answers(t, "Pin of one that went", c.Pin(0), api.ErrNone)
	reads(t, c, 0, 0)
	answers(t, "Unpin of one that came again", c.Unpin(0), api.ErrState)
}

// P10.2: out of memory, dirty or not, but not if it is pinned; then the disk's bytes come.
func TestDrop(t *testing.T) {
	c, d := fresh(t, 2)
	answers(t, "Lay", c.Lay(1, fill(90)), api.OK)
	answers(t, "Pin", c.Pin(1), api.OK)
	answers(t, "Drop of a pinned one", c.Drop(1), api.ErrBusy)
	reads(t, c, 1, 90)
	dirty(t, c, 1)
	answers(t, "Unpin", c.Unpin(1), api.OK)
	answers(t, "Drop", c.Drop(1), api.OK)
	answers(t, "Drop of one that was dropped", c.Drop(1), api.ErrNone)
	held(t, c)
	dirty(t, c)
	reads(t, c, 1, 1)
	answers(t, "Drop of one that is not dirty", c.Drop(1), api.OK)
	held(t, c)
	if len(d.Open()) != 0 {
		t.Error("Drop wrote", d.Open())
	}
}

// P10.1: an image goes to the disk, and what is in memory stays; of an empty one that goes. Each time it is a write more.
func TestWrite(t *testing.T) {
	c, d := fresh(t, 2)
	answers(t, "Lay", c.Lay(1, fill(90)), api.OK)
	answers(t, "Write of an image", c.Write(1, fill(91)), api.OK)
	stands(t, d, 1, 91)
	reads(t, c, 1, 90)
	dirty(t, c, 1)
	for i, none := range [][]byte{nil, {}, make([]byte, 0, 300)} {
		answers(t, "Write of no bytes", c.Write(1, none), api.OK)
		stands(t, d, 1, 90)
		dirty(t, c)
		if d.Writes(1) != i+2 {
			t.Error("writes", d.Writes(1))
		}
	}
	answers(t, "Write of other bytes", c.Write(1, fill(92)), api.OK)
	dirty(t, c, 1)
	answers(t, "Write of its bytes", c.Write(1, fill(90)), api.OK)
	dirty(t, c)
}

// P10.1: a block that is not there comes as it stands on the disk, then the image is written.
func TestWriteOfOneThatComes(t *testing.T) {
	c, d := fresh(t, 1)
	answers(t, "Write of no bytes", c.Write(2, nil), api.OK)
	held(t, c, 2)
	dirty(t, c)
	stands(t, d, 2, 2)
	if d.Writes(2) != 1 {
		t.Error("writes", d.Writes(2))
	}
	answers(t, "Write of an image", c.Write(3, fill(93)), api.OK)
	held(t, c, 3)
	dirty(t, c, 3)
	stands(t, d, 3, 93)
	reads(t, c, 3, 3)
	refuses(t, c, 0, api.ErrFull)
	answers(t, "Drop", c.Drop(3), api.OK)
	reads(t, c, 3, 93)
	dirty(t, c)
}

// Words: dirty is who has other bytes, in any place, than the disk has; not who was laid.
func TestDirtyIsOfBytes(t *testing.T) {
	c, _ := fresh(t, 4)
	for b := range 4 {
		answers(t, "Lay of the disk's bytes", c.Lay(3-b, fill(byte(3-b))), api.OK)
	}
	dirty(t, c)
	for i := range api.Block {
		other := fill(2)
		other[i] ^= 1
		answers(t, "Lay", c.Lay(2, other), api.OK)
		dirty(t, c, 2)
		answers(t, "Lay", c.Lay(2, fill(2)), api.OK)
		dirty(t, c)
	}
	for _, b := range []int{3, 0, 2, 1} {
		answers(t, "Lay", c.Lay(b, fill(99)), api.OK)
	}
	held(t, c, 3, 0, 2, 1)
	dirty(t, c, 0, 1, 2, 3)
}

// P10.3: what was laid last, also if it went by itself since; behind a Drop what was written.
func TestWhatIsRead(t *testing.T) {
	c, _ := fresh(t, 1)
	reads(t, c, 0, 0)
	answers(t, "Lay", c.Lay(0, fill(10)), api.OK)
	answers(t, "Lay", c.Lay(0, fill(11)), api.OK)
	reads(t, c, 0, 11)
	answers(t, "Write", c.Write(0, nil), api.OK)
	reads(t, c, 0, 11)
	reads(t, c, 1, 1)
	held(t, c, 1)
	reads(t, c, 0, 11)
	answers(t, "Lay", c.Lay(0, fill(12)), api.OK)
	reads(t, c, 0, 12)
	answers(t, "Drop", c.Drop(0), api.OK)
	reads(t, c, 0, 11)
}

// P10.2: what was written is safe behind Flush, not ahead of it; what was laid alone is nowhere on the disk.
func TestFlush(t *testing.T) {
	c, d := fresh(t, 4)
	for b := range 3 {
		answers(t, "Lay", c.Lay(b, fill(byte(20+b))), api.OK)
	}
	answers(t, "Write", c.Write(1, nil), api.OK)
	answers(t, "Flush", c.Flush(), api.OK)
	if len(d.Open()) != 0 {
		t.Error("behind Flush", d.Open())
	}
	answers(t, "Write", c.Write(2, nil), api.OK)
	dirty(t, c, 0)
	d.Crash(nil)
	for b, want := range []byte{0, 21, 2, 3} {
		stands(t, d, b, want)
	}
	dirty(t, c, 0, 2)
}

// P10.5: no other call gives the disk a write, or other bytes.
func TestWriteAloneChangesTheDisk(t *testing.T) {
	c, d := fresh(t, 2)
	before := d.Bytes()
	for b := range 4 {
		reads(t, c, b, byte(b))
		answers(t, "Lay", c.Lay(b, fill(77)), api.OK)
		answers(t, "Pin", c.Pin(b), api.OK)
		answers(t, "Flush", c.Flush(), api.OK)
		answers(t, "Unpin", c.Unpin(b), api.OK)
		c.Held()
		c.Dirty()
		answers(t, "Lay", c.Lay(b, fill(byte(b))), api.OK)
		if b%2 == 0 {
			answers(t, "Drop", c.Drop(b), api.OK)
		}
		if !bytes.Equal(d.Bytes(), before) || len(d.Open()) != 0 {
			t.Fatal("the disk changed", d.Open())
		}
	}
	answers(t, "Write", c.Write(1, fill(77)), api.OK)
	if bytes.Equal(d.Bytes(), before) || d.Writes(1) != 1 {
		t.Error("the disk did not change")
	}
}

// The rules 4 and 5: what is handed in is neither changed nor kept, and no answer is seen again.
func TestNewMemory(t *testing.T) {
	c, d := fresh(t, 3)
	data, image := fill(30), fill(31)
	answers(t, "Lay", c.Lay(1, data), api.OK)
	answers(t, "Write", c.Write(2, image), api.OK)
	if !bytes.Equal(data, fill(30)) || !bytes.Equal(image, fill(31)) {
		t.Error("what was handed in is changed")
	}
	clear(data)
	clear(image)
	reads(t, c, 1, 30)
	stands(t, d, 2, 31)
	answers(t, "Write", c.Write(1, nil), api.OK)
	answers(t, "Lay", c.Lay(1, fill(32)), api.OK)
	stands(t, d, 1, 30)
	got, _ := c.Read(1)
	clear(got)
	_ = append(got, 1)
	reads(t, c, 1, 32)
	reads(t, c, 0, 0)
	for _, list := range [][]int{c.Held(), c.Dirty()} {
		for i := range list {
			list[i] = 99
		}
		_ = append(list[:1], 98, 97)
	}
	held(t, c, 2, 1, 0)
	dirty(t, c, 1, 2)
}

// Rule 1: what the disk is told beside the cache is seen; what is in memory stays, and is dirty then.
func TestDiskBesideIt(t *testing.T) {
	c, d := fresh(t, 2)
	reads(t, c, 0, 0)
	answers(t, "Write of the disk", d.Write(0, fill(40)), api.OK)
	answers(t, "Write of the disk", d.Write(1, fill(41)), api.OK)
	dirty(t, c, 0)
	reads(t, c, 0, 0)
	reads(t, c, 1, 41)
	reads(t, c, 2, 2) // in the place of 1, which is younger than 0 but may go
	held(t, c, 0, 2)
	d.Crash(nil)
	dirty(t, c)
	d.Stop(0)
	answers(t, "Lay", c.Lay(0, fill(42)), api.OK)
	answers(t, "Write to a disk that stopped", c.Write(0, nil), api.OK)
	dirty(t, c, 0)
	answers(t, "Flush of a disk that stopped", c.Flush(), api.OK)
	stands(t, d, 0, 0)
	d.Crash(nil)
	answers(t, "Write", c.Write(0, nil), api.OK)
	dirty(t, c)
	stands(t, d, 0, 42)
}

// Rule 1: two caches of one disk see what the other one writes, and nothing else of it.
func TestTwoCaches(t *testing.T) {
	c, d := fresh(t, 2)
	other, _ := cache.New(d, 2)
	answers(t, "Lay", c.Lay(0, fill(50)), api.OK)
	reads(t, other, 0, 0)
	held(t, other, 0)
	dirty(t, other)
	answers(t, "Write", c.Write(0, nil), api.OK)
	dirty(t, c)
	dirty(t, other, 0)
	answers(t, "Drop", other.Drop(0), api.OK)
	reads(t, other, 0, 50)
}
