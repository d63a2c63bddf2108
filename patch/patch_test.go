package patch_test

import (
	"bytes"
	"math"
	"slices"
	"testing"

	"levee/api"
	"levee/disk"
	"levee/patch"
)

// outside are numbers that no block of a disk of eight has.
var outside = []int{math.MinInt, -257, -1, 8, 9, api.MaxBlocks, math.MaxInt}

// unknown are numbers that are no change's, if there are fewer than 90.
var unknown = []int64{math.MinInt64, -1, 0, 90, 4096, math.MaxInt32, math.MaxInt64}

// fill is a block whose every byte is told by c and its place.
func fill(c byte) []byte {
	b := make([]byte, api.Block)
	for i := range b {
		b[i] = c ^ byte(i)*7
	}
	return b
}

// filled is a disk of n blocks whose b-th one is fill(b), safely.
func filled(t *testing.T, n int) *disk.Disk {
	t.Helper()
	var all []byte
	for b := range n {
		all = append(all, fill(byte(b))...)
	}
	d, e := disk.Load(all)
	if e != api.OK {
		t.Fatal("Load", e)
	}
	return d
}

// fresh is a store with at most so many blocks in memory on a disk of eight.
func fresh(t *testing.T, most int) (*patch.Store, *disk.Disk) {
	t.Helper()
	d, _ := disk.New(8)
	s, e := patch.Open(d, most)
	if e != api.OK || s == nil {
		t.Fatal("Open", s, e)
	}
	return s, d
}

// patched makes a change that must be taken.
func patched(t *testing.T, s *patch.Store, b, from int, text string, after ...int64) int64 {
	t.Helper()
	id, e := s.Patch(b, from, []byte(text), after...)
	if e != api.OK {
		t.Fatalf("Patch(%d, %d, %q, %v): %d", b, from, text, after, e)
	}
	return id
}

func answers(t *testing.T, what string, got, want api.Errno) {
	t.Helper()
	if got != want {
		t.Errorf("%s: %d, not %d", what, got, want)
	}
}

// begins holds a block's bytes against a text and bytes 0 behind it.
func begins(t *testing.T, what string, got []byte, e api.Errno, text string) {
	t.Helper()
	want := make([]byte, api.Block)
	copy(want, text)
	if e != api.OK || !bytes.Equal(got, want) {
		t.Errorf("%s: %q, %d, not %q", what, got[:min(len(got), len(text)+1)], e, text)
	}
}

func reads(t *testing.T, s *patch.Store, b int, text string) {
	t.Helper()
	got, e := s.Read(b)
	begins(t, "Read", got, e, text)
}

func images(t *testing.T, s *patch.Store, b int, text string) {
	t.Helper()
	got, e := s.Image(b)
	begins(t, "Image", got, e, text)
}

func safely(t *testing.T, d *disk.Disk, b int, text string) {
	t.Helper()
	got, e := d.Safe(b)
	begins(t, "Safe of the disk", got, e, text)
}

func written(t *testing.T, s *patch.Store, blocks ...int) {
	t.Helper()
	for _, b := range blocks {
		answers(t, "Write", s.Write(b), api.OK)
	}
}

func flushed(t *testing.T, s *patch.Store) {
	t.Helper()
	answers(t, "Flush", s.Flush(), api.OK)
}

// open tells which changes are not safe, of as many as there are.
func open(t *testing.T, s *patch.Store, last int64, want ...int64) {
	t.Helper()
	for id := range last {
		if s.Safe(id+1) == slices.Contains(want, id+1) {
			t.Errorf("Safe(%d): %v, with %v open", id+1, s.Safe(id+1), want)
		}
	}
	if s.Open() != len(want) {
		t.Errorf("Open: %d, not %d", s.Open(), len(want))
	}
}

func dirty(t *testing.T, s *patch.Store, want ...int) {
	t.Helper()
	if got := s.Dirty(); !slices.Equal(got, want) {
		t.Errorf("Dirty: %v, not %v", got, want)
	}
}

func waits(t *testing.T, s *patch.Store, id int64, want ...int64) {
	t.Helper()
	if got := s.Waits(id); !slices.Equal(got, want) {
		t.Errorf("Waits(%d): %v, not %v", id, got, want)
	}
}

func ready(t *testing.T, s *patch.Store, b, want int) {
	t.Helper()
	if got := s.Ready(b); got != want {
		t.Errorf("Ready(%d): %d, not %d", b, got, want)
	}
}

// P11.1: cache.New's errors, no disk ahead of how many can not be.
func TestOpen(t *testing.T) {
	wrong := []int{math.MinInt, -1, 0, api.MaxBlocks + 1, math.MaxInt}
	for _, most := range append([]int{1, api.MaxBlocks}, wrong...) {
		if s, e := patch.Open(nil, most); s != nil || e != api.ErrNil {
			t.Errorf("Open(nil, %d): %v, %d", most, s, e)
		}
	}
	d := filled(t, 8)
	for _, most := range wrong {
		if s, e := patch.Open(d, most); s != nil || e != api.ErrArg {
			t.Errorf("Open(%d): %v, %d", most, s, e)
		}
	}
	for _, most := range []int{1, 8, api.MaxBlocks} {
		s, e := patch.Open(d, most)
		if s == nil || e != api.OK || s.Open() != 0 || s.Len() != 8 {
			t.Fatalf("Open(%d): %v, %d", most, s, e)
		}
		dirty(t, s)
		if s.Safe(1) {
			t.Error("a change that is not there is safe")
		}
		for b := range 8 {
			if got, e := s.Read(b); e != api.OK || !bytes.Equal(got, fill(byte(b))) {
				t.Errorf("Read(%d): %x, %d", b, got, e)
			}
			if got, e := s.Image(b); e != api.OK || !bytes.Equal(got, fill(byte(b))) {
				t.Errorf("Image(%d): %x, %d", b, got, e)
			}
		}
	}
	if len(d.Open()) != 0 {
		t.Error("Open wrote", d.Open())
	}
}

// Promises' heading: of nil ErrNil, 0, false, none. A store that Open did not make has no blocks, and does not panic.
func TestNoStore(t *testing.T) {
	for i, s := range []*patch.Store{nil, new(patch.Store)} {
		none := []api.Errno{api.ErrNil, api.ErrRange}[i]
		for _, b := range append([]int{0, 1}, outside...) {
			for _, data := range [][]byte{nil, {1}, fill(1)} {
				for _, after := range [][]int64{nil, {}, {1}, unknown} {
					if id, e := s.Patch(b, 0, data, after...); id != 0 || e != none {
						t.Errorf("Patch: %d, %d", id, e)
					}
				}
			}
			if got, e := s.Read(b); len(got) != 0 || e != api.ErrNil {
				t.Error("Read", got, e)
			}
			if got, e := s.Image(b); len(got) != 0 || e != api.ErrNil {
				t.Error("Image", got, e)
			}
			answers(t, "Write", s.Write(b), none)
			ready(t, s, b, 0)
		}
		for _, id := range append([]int64{1, 2}, unknown...) {
			if n, e := s.Block(id); n != 0 || e != []api.Errno{api.ErrNil, api.ErrNone}[i] {
				t.Error("Block", n, e)
			}
			if s.Safe(id) {
				t.Error("Safe", id)
			}
			waits(t, s, id)
		}
		answers(t, "Flush", s.Flush(), api.ErrNil)
		dirty(t, s)
		if s.Open() != 0 || s.Len() != 0 {
			t.Error("Open, Len", s.Open(), s.Len())
		}
	}
}

// The document's example.
func TestExample(t *testing.T) {
	s, d := fresh(t, 8)
	patched(t, s, 5, 0, "a")
	patched(t, s, 6, 0, "b", 1)
	if id := patched(t, s, 5, 1, "c", 2); id != 3 {
		t.Error("the third change is", id)
	}
	reads(t, s, 5, "ac")
	reads(t, s, 6, "b")
	images(t, s, 6, "")
	images(t, s, 5, "a")
	written(t, s, 5)
	flushed(t, s)
	open(t, s, 3, 2, 3)
	images(t, s, 6, "b")
	images(t, s, 5, "a")
	written(t, s, 6)
	flushed(t, s)
	open(t, s, 3, 3)
	images(t, s, 5, "ac")
	written(t, s, 5)
	flushed(t, s)
	open(t, s, 3)
	dirty(t, s)
	safely(t, d, 5, "ac")
	safely(t, d, 6, "b")
}

// P11.1: ErrRange is named ahead of ErrSize, this ahead of ErrArg, and this ahead of ErrFull. What is refused changes nothing, and takes no number.
func TestRefused(t *testing.T) {
	s, d := fresh(t, 1)
	patched(t, s, 3, 0, "x")
	places := []struct{ from, n int }{
		{0, 0}, {5, 0}, {256, 0}, {-1, 1}, {-1, 2}, {math.MinInt, 1}, {256, 1}, {255, 2}, {1, 256},
		{0, 257}, {-1, 257}, {math.MaxInt, 1}, {math.MaxInt, 256}, {math.MinInt, 256}, {-256, 256}, {0, 4096},
	}
	for _, b := range outside {
		for _, p := range append(places, struct{ from, n int }{0, 1}) {
			for _, after := range [][]int64{nil, {1}, unknown} {
				if id, e := s.Patch(b, p.from, make([]byte, p.n), after...); id != 0 || e != api.ErrRange {
					t.Errorf("Patch(%d): %d, %d", b, id, e)
				}
			}
		}
		if got, e := s.Read(b); len(got) != 0 || e != api.ErrRange {
			t.Errorf("Read(%d): %d", b, e)
		}
		if got, e := s.Image(b); len(got) != 0 || e != api.ErrRange {
			t.Errorf("Image(%d): %d", b, e)
		}
		answers(t, "Write outside", s.Write(b), api.ErrRange)
		ready(t, s, b, 0)
	}
	for _, b := range []int{0, 3, 7} {
		for _, p := range places {
			for _, after := range [][]int64{nil, {1}, unknown} {
				if id, e := s.Patch(b, p.from, make([]byte, p.n), after...); id != 0 || e != api.ErrSize {
					t.Errorf("Patch(%d, %d, %d bytes): %d, %d", b, p.from, p.n, id, e)
				}
			}
		}
		for _, wrong := range append(unknown, 2, 3) {
			for _, after := range [][]int64{{wrong}, {1, wrong}, {wrong, 1}, {1, 1, wrong, 1}} {
				if id, e := s.Patch(b, 255, []byte{1}, after...); id != 0 || e != api.ErrArg {
					t.Errorf("Patch(%d) behind %v: %d, %d", b, after, id, e)
				}
			}
		}
	}
	for _, b := range []int{0, 2, 4, 7} {
		if id, e := s.Patch(b, 0, []byte{1}, 1); id != 0 || e != api.ErrFull {
			t.Errorf("Patch(%d): %d, %d", b, id, e)
		}
		if got, e := s.Read(b); len(got) != 0 || e != api.ErrFull {
			t.Errorf("Read(%d): %d", b, e)
		}
		if got, e := s.Image(b); len(got) != 0 || e != api.ErrFull {
			t.Errorf("Image(%d): %d", b, e)
		}
		answers(t, "Write of a block without changes", s.Write(b), api.ErrNone)
		ready(t, s, b, 0)
	}
	if len(d.Open()) != 0 {
		t.Error("refused calls wrote", d.Open())
	}
	reads(t, s, 3, "x")
	dirty(t, s, 3)
	open(t, s, 1, 1)
	if id := patched(t, s, 3, 1, "y", 1, 1); id != 2 {
		t.Error("a refused change took a number:", id)
	}
}

// P11.1: every place and length within a block, to its last byte; the bytes beside stay.
func TestPlaces(t *testing.T) {
	d := filled(t, 2)
	s, _ := patch.Open(d, 2)
	want := fill(1)
	for i, p := range []struct{ from, n int }{{0, 1}, {255, 1}, {0, 256}, {1, 255}, {0, 255}, {100, 100}, {254, 2}, {128, 128}} {
		data := bytes.Repeat([]byte{byte(i + 1)}, p.n)
		if id, e := s.Patch(1, p.from, data); id != int64(i+1) || e != api.OK {
			t.Fatalf("Patch(%d, %d bytes): %d, %d", p.from, p.n, id, e)
		}
		copy(want[p.from:], data)
		if got, _ := s.Read(1); !bytes.Equal(got, want) {
			t.Errorf("Read behind %d changes: %x, not %x", i+1, got, want)
		}
	}
	if now, _ := d.Read(1); !bytes.Equal(now, fill(1)) {
		t.Error("a change is on the disk ahead of Write")
	}
	written(t, s, 1)
	flushed(t, s)
	if now, _ := d.Safe(1); !bytes.Equal(now, want) || s.Open() != 0 {
		t.Error("behind Write and Flush", now)
	}
}

// P11.1: bytes that are what stood there make a change, too; it waits and is waited for.
func TestSameBytesAreAChange(t *testing.T) {
	s, _ := fresh(t, 8)
	a := patched(t, s, 1, 0, "\x00")
	b := patched(t, s, 2, 0, "\x00", a)
	dirty(t, s, 1, 2)
	ready(t, s, 1, 1)
	ready(t, s, 2, 0)
	waits(t, s, b, a, b)
}

// P11.1: blocks with open changes stay in memory; when they have none, others come in their place.
func TestPinned(t *testing.T) {
	s, d := fresh(t, 2)
	patched(t, s, 1, 0, "a")
	for b := range 8 {
		if b != 1 {
			reads(t, s, b, "")
		}
	}
	patched(t, s, 2, 0, "b", 1)
	refuses := func(want api.Errno) {
		t.Helper()
		_, e := s.Read(3)
		answers(t, "Read", e, want)
		_, e = s.Image(3)
		answers(t, "Image", e, want)
	}
	refuses(api.ErrFull)
	images(t, s, 1, "a")
	images(t, s, 2, "")
	written(t, s, 1, 2)
	refuses(api.ErrFull)
	flushed(t, s)
	refuses(api.OK)
	patched(t, s, 3, 0, "c")
	_, e := s.Read(1)
	answers(t, "Read of one that went", e, api.ErrFull)
	written(t, s, 2, 3)
	flushed(t, s)
	open(t, s, 3)
	for b, text := range []string{"", "a", "b", "c", "", "", "", ""} {
		reads(t, s, b, text)
		images(t, s, b, text)
		safely(t, d, b, text)
	}
}

// P11.1: a block that has more than one change, of which some are safe, is pinned still, and once.
func TestPinnedOnce(t *testing.T) {
	s, _ := fresh(t, 1)
	patched(t, s, 1, 0, "a")
	patched(t, s, 1, 1, "b")
	written(t, s, 1)
	patched(t, s, 1, 2, "c", 1)
	for range 2 {
		_, e := s.Read(5)
		answers(t, "Read", e, api.ErrFull)
		_, e = s.Patch(5, 0, []byte("x"))
		answers(t, "Patch", e, api.ErrFull)
		flushed(t, s)
		open(t, s, 3, 3)
		reads(t, s, 1, "abc")
	}
	written(t, s, 1)
	flushed(t, s)
	reads(t, s, 5, "")
	reads(t, s, 1, "abc")
	patched(t, s, 5, 0, "x")
}

// Words: what meets one that may not be written may not be either, at any byte that they have in common and at no other.
func TestMeet(t *testing.T) {
	for _, c := range []struct {
		from, n int
		meets   bool
	}{
		{0, 100, false}, {0, 101, true}, {99, 1, false}, {100, 1, true}, {109, 1, true}, {110, 1, false},
		{105, 2, true}, {90, 10, false}, {90, 11, true}, {109, 20, true}, {110, 146, false}, {0, 256, true}, {100, 10, true}, {99, 12, true},
	} {
		s, _ := fresh(t, 8)
		key := patched(t, s, 1, 0, "k")
		held := patched(t, s, 2, 100, "0123456789", key)
		id, e := s.Patch(2, c.from, bytes.Repeat([]byte{'x'}, c.n))
		answers(t, "Patch", e, api.OK)
		want := make([]byte, api.Block)
		if c.meets {
			ready(t, s, 2, 0)
			waits(t, s, id, key, held, id)
		} else {
			ready(t, s, 2, 1)
			waits(t, s, id, id)
			copy(want[c.from:], bytes.Repeat([]byte{'x'}, c.n))
		}
		if got, _ := s.Image(2); !bytes.Equal(got, want) {
			t.Errorf("Image with %d bytes at %d: %q", c.n, c.from, got)
		}
		written(t, s, 2)
		flushed(t, s)
		if s.Safe(id) == c.meets || s.Safe(held) || s.Safe(key) {
			t.Errorf("%d bytes at %d are safe: %v", c.n, c.from, s.Safe(id))
		}
	}
}

// Words: one meets those ahead of it alone, and of its own block alone.
func TestMeetAheadAlone(t *testing.T) {
	s, _ := fresh(t, 8)
	early := patched(t, s, 2, 0, "early")
	key := patched(t, s, 1, 0, "k")
	late := patched(t, s, 2, 0, "late", key)
	other := patched(t, s, 3, 0, "other")
	images(t, s, 2, "early")
	reads(t, s, 2, "latey")
	images(t, s, 3, "other")
	ready(t, s, 2, 1)
	waits(t, s, early, early)
	waits(t, s, other, other)
	waits(t, s, late, early, key, late)
}

// Words: by a change that is met another one is held that meets none that waits itself.
func TestMeetInARow(t *testing.T) {
	s, _ := fresh(t, 8)
	key := patched(t, s, 1, 0, "k")
	a := patched(t, s, 2, 0, "aaaa", key)
	b := patched(t, s, 2, 3, "bbbb")
	c := patched(t, s, 2, 6, "cccc")
	d := patched(t, s, 2, 10, "dd")
	waits(t, s, c, key, a, b, c)
	waits(t, s, d, d)
	ready(t, s, 2, 1)
	images(t, s, 2, "\x00\x00\x00\x00\x00\x00\x00\x00\x00\x00dd")
	reads(t, s, 2, "aaabbbccccdd")
	written(t, s, 1)
	flushed(t, s)
	ready(t, s, 2, 4)
	images(t, s, 2, "aaabbbccccdd")
	waits(t, s, c, a, b, c)
	written(t, s, 2)
	flushed(t, s)
	open(t, s, 5)
}

// Words: the last one at a byte stands for all ahead of it there, though each has other bytes beside.
func TestMeetAtOneByte(t *testing.T) {
	s, _ := fresh(t, 8)
	key := patched(t, s, 1, 0, "k")
	a := patched(t, s, 2, 5, "a", key)
	b := patched(t, s, 2, 4, "bbb")
	c := patched(t, s, 2, 5, "c")
	d := patched(t, s, 2, 4, "d")
	waits(t, s, c, key, a, b, c)
	waits(t, s, d, key, a, b, d)
	ready(t, s, 2, 0)
	reads(t, s, 2, "\x00\x00\x00\x00dcb")
}

// Words: what waits for another one of its block goes with it, and not if that one may not go.
func TestSameBlock(t *testing.T) {
	s, d := fresh(t, 8)
	p := patched(t, s, 1, 0, "x")
	q := patched(t, s, 1, 5, "y", p)
	r := patched(t, s, 1, 9, "z", p, q)
	ready(t, s, 1, 3)
	waits(t, s, r, p, q, r)
	written(t, s, 1)
	ready(t, s, 1, 0)
	open(t, s, 3, p, q, r)
	flushed(t, s)
	open(t, s, 3)
	safely(t, d, 1, "x\x00\x00\x00\x00y\x00\x00\x00z")
	k := patched(t, s, 2, 0, "k")
	a := patched(t, s, 1, 20, "a", k)
	b := patched(t, s, 1, 30, "b", a)
	c := patched(t, s, 1, 40, "c", q, r)
	ready(t, s, 1, 1)
	written(t, s, 1)
	flushed(t, s)
	open(t, s, c, k, a, b)
	waits(t, s, b, k, a, b)
}

// P11.2: a change that was written and not flushed is open, is in no count of Ready, and those that wait for it wait on.
func TestWrittenNotFlushed(t *testing.T) {
	s, d := fresh(t, 8)
	a := patched(t, s, 5, 0, "a")
	b := patched(t, s, 6, 0, "b", a)
	ready(t, s, 5, 1)
	written(t, s, 5)
	ready(t, s, 5, 0)
	ready(t, s, 6, 0)
	open(t, s, 2, a, b)
	dirty(t, s, 5, 6)
	images(t, s, 5, "a")
	images(t, s, 6, "")
	waits(t, s, b, a, b)
	safely(t, d, 5, "")
	c := patched(t, s, 5, 1, "c")
	ready(t, s, 5, 1)
	flushed(t, s)
	open(t, s, 3, b, c)
	ready(t, s, 5, 1)
	ready(t, s, 6, 1)
	safely(t, d, 5, "a")
	images(t, s, 5, "ac")
	waits(t, s, b, b)
}

// P11.2: each Write is a write of the disk, whether something is ready or not; without open changes there is none.
func TestWrite(t *testing.T) {
	s, d := fresh(t, 8)
	for b := range 8 {
		answers(t, "Write of a block without changes", s.Write(b), api.ErrNone)
	}
	patched(t, s, 1, 0, "k")
	patched(t, s, 2, 0, "a", 1)
	written(t, s, 2, 2, 1, 1)
	if d.Writes(1) != 2 || d.Writes(2) != 2 {
		t.Error("writes", d.Writes(1), d.Writes(2))
	}
	flushed(t, s)
	answers(t, "Write of a block whose changes are safe", s.Write(1), api.ErrNone)
	ready(t, s, 2, 1)
	written(t, s, 2)
	patched(t, s, 3, 0, "k")
	patched(t, s, 2, 1, "b", 3)
	written(t, s, 2)
	if now, _ := d.Read(2); string(now[:2]) != "a\x00" {
		t.Errorf("what was written once was left out later: %q", now[:2])
	}
	flushed(t, s)
	open(t, s, 4, 3, 4)
	reads(t, s, 2, "ab")
}

// P11.2: Flush without writes makes nothing safe; the disk's own Flush beside it neither.
func TestFlush(t *testing.T) {
	s, d := fresh(t, 8)
	flushed(t, s)
	a := patched(t, s, 1, 0, "a")
	flushed(t, s)
	open(t, s, 1, a)
	written(t, s, 1)
	d.Flush()
	open(t, s, 1, a)
	safely(t, d, 1, "a")
	flushed(t, s)
	open(t, s, 1)
	d.Write(7, fill(1))
	flushed(t, s)
	dirty(t, s)
	if len(d.Open()) != 0 {
		t.Error("the disk is not flushed", d.Open())
	}
}

// P11.2: a change behind safe ones may be written at once, though they are long gone.
func TestAfterSafe(t *testing.T) {
	s, _ := fresh(t, 8)
	for i := range 50 {
		var all []int64
		for id := range int64(i) {
			all = append(all, id+1)
		}
		id := patched(t, s, i%8, i, "x", all...)
		ready(t, s, i%8, 1)
		waits(t, s, id, id)
		written(t, s, i%8)
		flushed(t, s)
	}
	open(t, s, 50)
}

// P11.2, P11.3: numbers that are no change's, and those of safe ones.
func TestNumbers(t *testing.T) {
	s, _ := fresh(t, 8)
	a := patched(t, s, 4, 0, "a")
	b := patched(t, s, 5, 0, "b", a, a, a)
	written(t, s, 4)
	flushed(t, s)
	for _, id := range append(unknown, 3, 4) {
		if s.Safe(id) {
			t.Errorf("Safe(%d)", id)
		}
		waits(t, s, id)
		if n, e := s.Block(id); n != 0 || e != api.ErrNone {
			t.Errorf("Block(%d): %d, %d", id, n, e)
		}
	}
	waits(t, s, a)
	if n, e := s.Block(a); n != 0 || e != api.ErrNone || !s.Safe(a) {
		t.Error("Block of a safe one", n, e)
	}
	waits(t, s, b, b)
	if n, e := s.Block(b); n != 5 || e != api.OK || s.Safe(b) {
		t.Error("Block of an open one", n, e)
	}
}

// P11.3: rising, each once, by all ways, and not those that wait for it.
func TestWaits(t *testing.T) {
	s, _ := fresh(t, 8)
	for b := range 6 {
		patched(t, s, b, 0, "x") // 1 to 6
	}
	patched(t, s, 0, 10, "x", 6, 5)       // 7
	patched(t, s, 1, 10, "x", 7, 6, 2, 7) // 8
	patched(t, s, 6, 0, "x", 8)           // 9
	patched(t, s, 6, 0, "y", 1)           // 10, meets 9
	patched(t, s, 7, 0, "z")              // 11
	patched(t, s, 2, 0, "z", 10, 11)      // 12, meets 3
	patched(t, s, 3, 1, "z", 12)          // 13
	waits(t, s, 7, 5, 6, 7)
	waits(t, s, 8, 2, 5, 6, 7, 8)
	waits(t, s, 9, 2, 5, 6, 7, 8, 9)
	waits(t, s, 10, 1, 2, 5, 6, 7, 8, 9, 10)
	waits(t, s, 12, 1, 2, 3, 5, 6, 7, 8, 9, 10, 11, 12)
	waits(t, s, 13, 1, 2, 3, 5, 6, 7, 8, 9, 10, 11, 12, 13)
	waits(t, s, 4, 4)
	written(t, s, 5, 2)
	flushed(t, s)
	waits(t, s, 8, 2, 5, 7, 8)
	waits(t, s, 12, 1, 2, 5, 7, 8, 9, 10, 11, 12)
}

// P11.5: a chain as long as this, through two blocks, is gone through and made safe, a change a round.
func TestLongChain(t *testing.T) {
	const n = 600
	s, _ := fresh(t, 2)
	for i := range int64(n) {
		var after []int64
		if i > 0 {
			after = []int64{i}
		}
		patched(t, s, int(i%2), int(i%256), "x", after...)
	}
	if got := s.Waits(n); len(got) != n || got[0] != 1 || got[n-1] != n {
		t.Error("Waits", len(got))
	}
	for round := range n {
		if s.Open() != n-round || s.Ready(0)+s.Ready(1) != 1 {
			t.Fatalf("round %d: %d open", round, s.Open())
		}
		for _, b := range s.Dirty() {
			s.Write(b)
		}
		s.Flush()
	}
	open(t, s, n)
}

// Many changes of one block that all meet, and behind many numbers.
func TestManyOfOneBlock(t *testing.T) {
	const n = 20000
	s, d := fresh(t, 2)
	key := patched(t, s, 0, 0, "k")
	for i := range n {
		patched(t, s, 1, i%3, string(rune('a'+i%26)), key)
	}
	if got := s.Waits(n + 1); s.Open() != n+1 || len(got) != n/3+2 {
		t.Error("Waits", s.Open(), len(got))
	}
	ready(t, s, 1, 0)
	written(t, s, 0)
	flushed(t, s)
	ready(t, s, 1, n)
	want, _ := s.Read(1)
	written(t, s, 1)
	flushed(t, s)
	if got, _ := d.Safe(1); !bytes.Equal(got, want) || s.Open() != 0 {
		t.Errorf("behind all of them %q, not %q", got[:3], want[:3])
	}
}

// The largest disk: each block has a change, each waits for the one ahead.
func TestLargestDisk(t *testing.T) {
	d, _ := disk.New(api.MaxBlocks)
	s, _ := patch.Open(d, api.MaxBlocks)
	var all []int
	for b := range api.MaxBlocks {
		patched(t, s, b, 255, "x")
		all = append(all, b)
	}
	dirty(t, s, all...)
	for b := range api.MaxBlocks {
		s.Write(b)
	}
	flushed(t, s)
	open(t, s, api.MaxBlocks)
	if s.Len() != api.MaxBlocks {
		t.Error("Len", s.Len())
	}
}

// The rules 4 and 5: what is handed in is neither changed nor kept, and no answer is seen again.
func TestNewMemory(t *testing.T) {
	s, d := fresh(t, 8)
	patched(t, s, 1, 0, "k")
	patched(t, s, 2, 9, "k")
	room := append(make([]int64, 0, 512), 2, 1, 1, 2)
	data, after := []byte("abc"), room[:2]
	id, _ := s.Patch(3, 0, data, after...)
	if string(data) != "abc" || !slices.Equal(room, []int64{2, 1, 1, 2}) {
		t.Error("what was handed in is changed", data, room)
	}
	clear(data)
	after[0], after[1] = 3, 3
	for range 2 {
		reads(t, s, 3, "abc")
		images(t, s, 1, "k")
		images(t, s, 7, "")
		waits(t, s, id, 1, 2, 3)
		dirty(t, s, 1, 2, 3)
		for _, ask := range []func(int) ([]byte, api.Errno){s.Read, s.Image} {
			for _, b := range []int{1, 3, 7} {
				got, _ := ask(b)
				clear(got)
				got[0], got[200] = 99, 99
				_ = append(got[:1], got...)
			}
		}
		for _, list := range [][]int64{s.Waits(id), s.Waits(1)} {
			clear(list)
			_ = append(list[:1], 9, 9)
		}
		list := s.Dirty()
		clear(list)
		_ = append(list[:1], 9, 9)
	}
	written(t, s, 1, 2)
	got, _ := d.Read(1)
	clear(got)
	flushed(t, s)
	written(t, s, 3)
	flushed(t, s)
	safely(t, d, 1, "k")
	safely(t, d, 3, "abc")
}

// Rule 1: a store works on its disk: a block that comes is as the disk was written beside it, and a disk that stopped answers as if it went on.
func TestDiskBesideIt(t *testing.T) {
	s, d := fresh(t, 8)
	beside := make([]byte, api.Block)
	copy(beside, "disk")
	d.Write(1, beside)
	reads(t, s, 1, "disk")
	images(t, s, 1, "disk")
	patched(t, s, 1, 0, "D")
	reads(t, s, 1, "Disk")
	d.Stop(0)
	a := patched(t, s, 2, 0, "a")
	b := patched(t, s, 3, 0, "b", a)
	written(t, s, 2)
	flushed(t, s)
	if !s.Safe(a) || s.Safe(b) {
		t.Error("Safe on a disk that stopped", s.Safe(a), s.Safe(b))
	}
	reads(t, s, 2, "a")
	ready(t, s, 3, 1)
	written(t, s, 3)
	flushed(t, s)
	reads(t, s, 3, "b")
	images(t, s, 3, "b")
	d.Crash(nil)
	safely(t, d, 2, "")
	safely(t, d, 3, "")
}

// Two stores of one disk have changes and numbers of their own.
func TestTwoStores(t *testing.T) {
	s, d := fresh(t, 8)
	other, _ := patch.Open(d, 8)
	patched(t, s, 1, 0, "a")
	patched(t, s, 2, 0, "b", 1)
	if other.Open() != 0 || patched(t, other, 3, 0, "c") != 1 {
		t.Error("numbers are shared")
	}
	written(t, s, 1)
	reads(t, other, 1, "a")
	reads(t, other, 2, "")
	other.Flush()
	open(t, s, 2, 1, 2)
	flushed(t, s)
	open(t, s, 2, 2)
	open(t, other, 1, 1)
}
