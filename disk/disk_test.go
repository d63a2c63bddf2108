package disk_test

import (
	"bytes"
	"math"
	"slices"
	"testing"

	"levee/api"
	"levee/disk"
)

// outside are numbers that no block has.
var outside = []int{math.MinInt, -257, -1, 4, 5, api.MaxBlocks, math.MaxInt}

// fill is a block whose every byte is told by c and its place.
func fill(c byte) []byte {
	b := make([]byte, api.Block)
	for i := range b {
		b[i] = c ^ byte(i)*7
	}
	return b
}

func fresh(t *testing.T, n int) *disk.Disk {
	t.Helper()
	d, e := disk.New(n)
	if e != api.OK || d == nil {
		t.Fatalf("New(%d): %d", n, e)
	}
	return d
}

func write(t *testing.T, d *disk.Disk, b int, cs ...byte) {
	t.Helper()
	for _, c := range cs {
		if e := d.Write(b, fill(c)); e != api.OK {
			t.Fatalf("Write(%d): %d", b, e)
		}
	}
}

func flush(t *testing.T, d *disk.Disk) {
	t.Helper()
	if e := d.Flush(); e != api.OK {
		t.Fatalf("Flush: %d", e)
	}
}

func reads(t *testing.T, d *disk.Disk, b int, want []byte) {
	t.Helper()
	if got, e := d.Read(b); e != api.OK || !bytes.Equal(got, want) {
		t.Errorf("Read(%d): %x, %d, not %x", b, got, e, want)
	}
}

func safe(t *testing.T, d *disk.Disk, b int, want []byte) {
	t.Helper()
	if got, e := d.Safe(b); e != api.OK || !bytes.Equal(got, want) {
		t.Errorf("Safe(%d): %x, %d, not %x", b, got, e, want)
	}
}

func open(t *testing.T, d *disk.Disk, want ...int) {
	t.Helper()
	if got := d.Open(); !slices.Equal(got, want) {
		t.Errorf("Open: %v, not %v", got, want)
	}
}

// P2.1: as many blocks as can be, all 0 and safe.
func TestNew(t *testing.T) {
	for _, n := range []int{math.MinInt, -4096, -1, 0, api.MaxBlocks + 1, 2 * api.MaxBlocks, math.MaxInt32, math.MaxInt} {
		if d, e := disk.New(n); e != api.ErrArg || d != nil {
			t.Errorf("New(%d): %v, %d", n, d, e)
		}
	}
	zero := make([]byte, api.Block)
	for _, n := range []int{1, 2, 255, api.MaxBlocks - 1, api.MaxBlocks} {
		d := fresh(t, n)
		if d.Len() != n || d.Stopped() || !bytes.Equal(d.Bytes(), make([]byte, n*api.Block)) {
			t.Errorf("New(%d): %d blocks", n, d.Len())
		}
		open(t, d)
		for _, b := range []int{0, n / 2, n - 1} {
			reads(t, d, b, zero)
			safe(t, d, b, zero)
		}
		if _, e := d.Read(n); e != api.ErrRange {
			t.Errorf("Read(%d) of %d blocks: %d", n, n, e)
		}
	}
}

// P2.1: whole blocks, from one to the most; all safe, and not kept.
func TestLoad(t *testing.T) {
	for _, n := range []int{0, 1, 255, 257, 511, api.MaxBlocks*api.Block - 1, api.MaxBlocks*api.Block + 1, (api.MaxBlocks + 1) * api.Block} {
		if d, e := disk.Load(make([]byte, n)); e != api.ErrArg || d != nil {
			t.Errorf("Load of %d bytes: %v, %d", n, d, e)
		}
	}
	if d, e := disk.Load(nil); e != api.ErrArg || d != nil {
		t.Error("Load of nil", d, e)
	}
	for _, n := range []int{1, 3, api.MaxBlocks} {
		var all []byte
		for b := range n {
			all = append(all, fill(byte(b+1))...)
		}
		d, e := disk.Load(all)
		if e != api.OK || d.Len() != n || !bytes.Equal(d.Bytes(), all) {
			t.Fatalf("Load of %d blocks: %d", n, e)
		}
		open(t, d)
		clear(all)
		write(t, d, n-1, 200)
		d.Crash(nil)
		for _, b := range []int{0, n - 1} {
			reads(t, d, b, fill(byte(b+1)))
			safe(t, d, b, fill(byte(b+1)))
		}
	}
	all := fill(1)
	d, _ := disk.Load(all)
	write(t, d, 0, 2)
	flush(t, d)
	if !bytes.Equal(all, fill(1)) {
		t.Error("a disk writes into what it was loaded from")
	}
}

// P2.1: what is written is read, and is not safe till it is flushed.
func TestWriteReadFlush(t *testing.T) {
	d := fresh(t, 4)
	zero := make([]byte, api.Block)
	write(t, d, 3, 1, 2)
	write(t, d, 0, 3)
	reads(t, d, 3, fill(2))
	safe(t, d, 3, zero)
	reads(t, d, 0, fill(3))
	reads(t, d, 1, zero)
	open(t, d, 0, 3)
	if d.Writes(3) != 2 || d.Writes(0) != 1 || d.Writes(1) != 0 {
		t.Error("Writes", d.Writes(3), d.Writes(0), d.Writes(1))
	}
	flush(t, d)
	open(t, d)
	for b, want := range [][]byte{fill(3), zero, zero, fill(2)} {
		reads(t, d, b, want)
		safe(t, d, b, want)
		if d.Writes(b) != 0 {
			t.Errorf("Writes(%d) behind a flush: %d", b, d.Writes(b))
		}
	}
	write(t, d, 3, 4)
	reads(t, d, 3, fill(4))
	safe(t, d, 3, fill(2))
}

// P2.1: the same bytes once more are a write, too.
func TestSameBytesAreAWrite(t *testing.T) {
	d := fresh(t, 2)
	d.Write(1, make([]byte, api.Block))
	d.Write(1, make([]byte, api.Block))
	open(t, d, 1)
	if d.Writes(1) != 2 {
		t.Error("Writes", d.Writes(1))
	}
}

// P2.1: the errors in their order; a refused call changes nothing.
func TestRefused(t *testing.T) {
	d := fresh(t, 4)
	write(t, d, 1, 1)
	flush(t, d)
	write(t, d, 1, 2)
	before := d.Bytes()
	for _, b := range outside {
		if got, e := d.Read(b); e != api.ErrRange || got != nil {
			t.Errorf("Read(%d): %v, %d", b, got, e)
		}
		if got, e := d.Safe(b); e != api.ErrRange || got != nil {
			t.Errorf("Safe(%d): %v, %d", b, got, e)
		}
		if n := d.Writes(b); n != 0 {
			t.Errorf("Writes(%d): %d", b, n)
		}
		for _, data := range [][]byte{nil, fill(1)[:255], fill(1), append(fill(1), 0)} {
			if e := d.Write(b, data); e != api.ErrRange {
				t.Errorf("Write(%d, %d bytes): %d", b, len(data), e)
			}
		}
	}
	for _, data := range [][]byte{nil, {}, {1}, fill(1)[:255], append(fill(1), 0), append(fill(1), fill(2)...)} {
		for b := range 4 {
			if e := d.Write(b, data); e != api.ErrSize {
				t.Errorf("Write(%d, %d bytes): %d", b, len(data), e)
			}
		}
	}
	open(t, d, 1)
	safe(t, d, 1, fill(1))
	if d.Writes(1) != 1 || !bytes.Equal(d.Bytes(), before) {
		t.Error("a refused call changed something")
	}
}

// P2.1, P2.2 and P6: of nil.
func TestNil(t *testing.T) {
	var d *disk.Disk
	for _, b := range append([]int{0, 1}, outside...) {
		if got, e := d.Read(b); e != api.ErrNil || got != nil {
			t.Error("Read", got, e)
		}
		if got, e := d.Safe(b); e != api.ErrNil || got != nil {
			t.Error("Safe", got, e)
		}
		if e := d.Write(b, fill(1)); e != api.ErrNil {
			t.Error("Write", e)
		}
		if e := d.Write(b, nil); e != api.ErrNil {
			t.Error("Write of nil", e)
		}
		if n := d.Writes(b); n != 0 {
			t.Error("Writes", n)
		}
		d.Stop(b)
		if d.Stopped() {
			t.Error("Stopped")
		}
	}
	d.Crash(nil)
	d.Crash([]int{1, 2})
	if e := d.Flush(); e != api.ErrNil {
		t.Error("Flush", e)
	}
	if d.Len() != 0 || len(d.Open()) != 0 || d.Copy() != nil || len(d.Bytes()) != 0 {
		t.Error("of nil there is something")
	}
}

// P6: a disk that nobody made has no blocks.
func TestOfNothing(t *testing.T) {
	d := new(disk.Disk)
	d.Stop(0)
	d.Crash([]int{1})
	if _, e := d.Read(0); e != api.ErrRange || d.Write(0, fill(1)) != api.ErrRange {
		t.Error("Read", e)
	}
	if d.Len() != 0 || d.Flush() != api.OK || len(d.Bytes()) != 0 || d.Copy().Len() != 0 {
		t.Error("of nothing there is something")
	}
}

// The rules 4 and 5: a disk shares no memory with what it is given, nor with what it answers.
func TestNewMemory(t *testing.T) {
	d := fresh(t, 2)
	data := fill(1)
	d.Write(1, data)
	clear(data)
	reads(t, d, 1, fill(1))
	flush(t, d)
	safe(t, d, 1, fill(1))
	write(t, d, 1, 2)
	for range 2 {
		now, _ := d.Read(1)
		was, _ := d.Safe(1)
		all, list := d.Bytes(), d.Open()
		clear(now)
		clear(was)
		clear(all)
		clear(list)
		_ = append(now, 9)
		reads(t, d, 1, fill(2))
		safe(t, d, 1, fill(1))
		open(t, d, 1)
		if got := d.Bytes(); !bytes.Equal(got[api.Block:], fill(2)) {
			t.Error("Bytes shares memory")
		}
	}
	flush(t, d)
	now, _ := d.Read(1)
	clear(now)
	reads(t, d, 1, fill(2))
	kept, _ := d.Read(1)
	write(t, d, 1, 3)
	flush(t, d)
	if !bytes.Equal(kept, fill(2)) {
		t.Error("an answer turned with the disk")
	}
	pick := []int{5, -1, 7}
	write(t, d, 0, 4)
	d.Crash(pick)
	if !slices.Equal(pick, []int{5, -1, 7}) {
		t.Error("Crash changed its list")
	}
}

// P2.2: rising, whatever order they were written in.
func TestOpenIsRising(t *testing.T) {
	d := fresh(t, api.MaxBlocks)
	for _, b := range []int{4095, 7, 300, 0, 256, 7, 4095} {
		write(t, d, b, 1)
	}
	open(t, d, 0, 7, 256, 300, 4095)
}

// P2.2: each count of writes that a crash may keep, and those that can not be.
func TestCrash(t *testing.T) {
	for _, c := range []struct{ pick, kept int }{
		{math.MinInt, 0}, {-1, 0}, {0, 0}, {1, 1}, {2, 2}, {3, 3}, {4, 3}, {math.MaxInt, 3},
	} {
		d := fresh(t, 2)
		write(t, d, 1, 10)
		flush(t, d)
		write(t, d, 1, 11, 12, 13)
		d.Crash([]int{c.pick})
		want := fill(byte(10 + c.kept))
		reads(t, d, 1, want)
		safe(t, d, 1, want)
		open(t, d)
		if d.Writes(1) != 0 {
			t.Errorf("Writes behind Crash(%d): %d", c.pick, d.Writes(1))
		}
	}
}

// P2.2: the i-th pick is that of the i-th block that has writes; none is 0, more than there are do not count.
func TestCrashPicks(t *testing.T) {
	for _, c := range []struct {
		pick []int
		want []byte
	}{
		{nil, []byte{1, 2, 3, 4}},
		{[]int{}, []byte{1, 2, 3, 4}},
		{[]int{1}, []byte{1, 21, 3, 4}},
		{[]int{0, 1}, []byte{1, 2, 31, 4}},
		{[]int{2, 0, 1}, []byte{1, 22, 3, 41}},
		{[]int{-5, 9, 9}, []byte{1, 2, 31, 42}},
		{[]int{1, 1, 1, 1, 1, 1}, []byte{1, 21, 31, 41}},
		{[]int{9, -1, 9, 9}, []byte{1, 22, 3, 42}},
	} {
		d := fresh(t, 4)
		for b := range 4 {
			write(t, d, b, byte(b+1))
		}
		flush(t, d)
		write(t, d, 3, 41)
		write(t, d, 1, 21, 22)
		write(t, d, 2, 31)
		write(t, d, 3, 42)
		d.Crash(c.pick)
		open(t, d)
		for b, want := range c.want {
			reads(t, d, b, fill(want))
			safe(t, d, b, fill(want))
		}
	}
}

// The document's example.
func TestCrashExample(t *testing.T) {
	d := fresh(t, 2)
	write(t, d, 1, 'A')
	flush(t, d)
	write(t, d, 1, 'B', 'C')
	d.Crash([]int{1})
	reads(t, d, 1, fill('B'))
}

// P2.2: a crash without writes, and one behind another one, change nothing; the disk goes on.
func TestCrashTwice(t *testing.T) {
	d := fresh(t, 2)
	d.Crash([]int{3, 3})
	write(t, d, 0, 1, 2)
	d.Crash([]int{1})
	d.Crash([]int{2, 2})
	safe(t, d, 0, fill(1))
	write(t, d, 0, 3)
	reads(t, d, 0, fill(3))
	d.Crash([]int{1})
	safe(t, d, 0, fill(3))
}

// P2.2: calls of Write and of Flush count, if they answer OK; behind the last all of them answer so, and none takes place.
func TestStop(t *testing.T) {
	for n := range 6 {
		d := fresh(t, 2)
		d.Stop(n)
		took := 0
		for i := range 8 {
			if d.Stopped() != (i >= n) {
				t.Errorf("Stop(%d) behind %d calls: %v", n, i, d.Stopped())
			}
			d.Read(1)
			d.Safe(0)
			d.Write(2, fill(1))
			d.Write(0, nil)
			write(t, d, 1, byte(i+1))
			if i < n {
				took++
			}
			if d.Writes(1) != took {
				t.Errorf("Stop(%d): %d writes took place, not %d", n, d.Writes(1), took)
			}
		}
		flush(t, d)
		safe(t, d, 1, make([]byte, api.Block))
		if d.Writes(0) != 0 || d.Writes(1) != n {
			t.Errorf("Stop(%d): a flush took place", n)
		}
		if n > 0 {
			reads(t, d, 1, fill(byte(n)))
		}
	}
}

// P2.2: a flush counts, one of nothing too.
func TestStopCountsFlushes(t *testing.T) {
	d := fresh(t, 2)
	d.Stop(3)
	flush(t, d)
	write(t, d, 0, 1)
	if d.Stopped() {
		t.Error("stopped behind two calls of three")
	}
	flush(t, d)
	safe(t, d, 0, fill(1))
	if !d.Stopped() {
		t.Error("not stopped behind three calls")
	}
	write(t, d, 0, 2)
	flush(t, d)
	reads(t, d, 0, fill(1))
	open(t, d)
}

// P2.2: below 0 is 0; the greatest is far; errors are told behind a Stop, too.
func TestStopEdges(t *testing.T) {
	for _, n := range []int{math.MinInt, -1, 0} {
		d := fresh(t, 2)
		d.Stop(n)
		if !d.Stopped() {
			t.Errorf("Stop(%d) lets calls take place", n)
		}
		write(t, d, 0, 1)
		open(t, d)
		if e := d.Write(2, nil); e != api.ErrRange {
			t.Error("Write", e)
		}
		if e := d.Write(1, nil); e != api.ErrSize {
			t.Error("Write", e)
		}
	}
	d := fresh(t, 2)
	d.Stop(math.MaxInt)
	write(t, d, 0, 1)
	flush(t, d)
	safe(t, d, 0, fill(1))
	if d.Stopped() {
		t.Error("Stop of the greatest number stopped")
	}
}

// P2.2: a Stop holds in the place of the one ahead of it, more or less, also if that one has come.
func TestStopBehindStop(t *testing.T) {
	d := fresh(t, 2)
	d.Stop(5)
	write(t, d, 0, 1)
	d.Stop(1)
	write(t, d, 0, 2, 3)
	reads(t, d, 0, fill(2))
	d.Stop(2)
	if d.Stopped() {
		t.Error("the old Stop holds")
	}
	write(t, d, 0, 4)
	flush(t, d)
	write(t, d, 0, 5)
	safe(t, d, 0, fill(4))
	reads(t, d, 0, fill(4))
	d.Stop(9)
	d.Stop(-1)
	if !d.Stopped() {
		t.Error("the last Stop does not hold")
	}
}

// P2.2: until Crash, one that has not come too.
func TestCrashEndsStop(t *testing.T) {
	for _, n := range []int{0, 1, 2, 100} {
		d := fresh(t, 2)
		d.Stop(n)
		write(t, d, 0, 1, 2)
		d.Crash([]int{9})
		if d.Stopped() {
			t.Errorf("Stop(%d) holds behind a crash", n)
		}
		for i := range 200 {
			write(t, d, 1, byte(i))
		}
		if d.Writes(1) != 200 || d.Stopped() {
			t.Errorf("Stop(%d): %d writes behind a crash", n, d.Writes(1))
		}
		flush(t, d)
		safe(t, d, 1, fill(199))
	}
}

// P2.2: a copy is as the disk is, and goes its own way from there.
func TestCopy(t *testing.T) {
	d := fresh(t, 3)
	write(t, d, 0, 1)
	flush(t, d)
	write(t, d, 0, 2, 3)
	write(t, d, 2, 4)
	c := d.Copy()
	if c == d || c.Len() != 3 || c.Writes(0) != 2 || c.Writes(2) != 1 || !bytes.Equal(c.Bytes(), d.Bytes()) || c.Stopped() {
		t.Fatal("Copy is another one")
	}
	open(t, c, 0, 2)
	safe(t, c, 0, fill(1))
	write(t, c, 0, 20)
	write(t, d, 0, 30, 31)
	write(t, c, 0, 21)
	write(t, c, 1, 22)
	if c.Writes(0) != 4 || d.Writes(0) != 4 || d.Writes(1) != 0 {
		t.Error("Writes", c.Writes(0), d.Writes(0), d.Writes(1))
	}
	one := c.Copy()
	one.Crash([]int{1})
	safe(t, one, 0, fill(2))
	two := c.Copy()
	two.Crash([]int{3})
	safe(t, two, 0, fill(20))
	flush(t, c)
	safe(t, c, 0, fill(21))
	safe(t, d, 0, fill(1))
	reads(t, d, 0, fill(31))
	d.Crash([]int{3})
	safe(t, d, 0, fill(30))
	reads(t, c, 0, fill(21))
}

// P2.2: a copy has the Stop, and a count of its own.
func TestCopyHasStop(t *testing.T) {
	d := fresh(t, 1)
	d.Stop(2)
	write(t, d, 0, 1)
	c := d.Copy()
	write(t, c, 0, 2, 3)
	if !c.Stopped() || d.Stopped() || c.Writes(0) != 2 {
		t.Error("Stopped", c.Stopped(), d.Stopped(), c.Writes(0))
	}
	c.Crash(nil)
	write(t, d, 0, 4, 5)
	if c.Stopped() || !d.Stopped() {
		t.Error("Stopped", c.Stopped(), d.Stopped())
	}
	reads(t, d, 0, fill(4))
	if !d.Copy().Stopped() {
		t.Error("a copy of a stopped disk goes on")
	}
}

// P2.2: all blocks as they were written last.
func TestBytes(t *testing.T) {
	d := fresh(t, 3)
	write(t, d, 1, 1)
	flush(t, d)
	write(t, d, 1, 2, 3)
	write(t, d, 2, 4)
	want := slices.Concat(make([]byte, api.Block), fill(3), fill(4))
	if got := d.Bytes(); !bytes.Equal(got, want) {
		t.Error("Bytes")
	}
	d.Crash([]int{0, 1})
	want = slices.Concat(make([]byte, api.Block), fill(1), fill(4))
	if got := d.Bytes(); !bytes.Equal(got, want) {
		t.Error("Bytes behind a crash")
	}
	l, e := disk.Load(want)
	if e != api.OK || !bytes.Equal(l.Bytes(), want) {
		t.Error("Load(Bytes)", e)
	}
}
