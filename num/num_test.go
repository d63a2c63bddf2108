package num_test

import (
	"bytes"
	"hash/crc32"
	"math"
	"testing"

	"levee/api"
	"levee/num"
)

// numbers are those at which a byte, a sign or a width ends.
var numbers = []uint64{0, 1, 2, 127, 128, 255, 256, 258, 65535, 65536, 1 << 24, 1<<31 - 1, 1 << 31, math.MaxUint32, 1 << 32, 0x0102030405060708, 0xf1e2d3c4b5a69788, math.MaxInt64, 1 << 63, math.MaxUint64 - 1, math.MaxUint64}

// odd are places and counts that no list has.
var odd = []int{math.MinInt, math.MinInt + 1, -257, -1, math.MaxInt32, math.MaxInt - 3, math.MaxInt - 1, math.MaxInt}

// mixed is n bytes without much order, none of them 0.
func mixed(n int) []byte {
	b := make([]byte, n)
	x := uint32(2463534242)
	for i := range b {
		x ^= x << 13
		x ^= x >> 17
		x ^= x << 5
		b[i] = byte(x) | 1
	}
	return b
}

// texts calls f with every list of up to most bytes that are a or b.
func texts(most int, f func([]byte)) {
	for n := range most + 1 {
		for x := range 1 << n {
			b := make([]byte, n)
			for i := range b {
				b[i] = 'a' + byte(x>>i&1)
			}
			f(b)
		}
	}
}

// P1.1: the lowest byte first, as many as there is room for, 0 behind the eighth, and nothing outside of the room.
func TestPut(t *testing.T) {
	for _, n := range numbers {
		for size := range 20 {
			room := bytes.Repeat([]byte{0xee}, size+4)
			num.Put(room[2:2+size], n)
			for i, c := range room {
				want := byte(0xee)
				if k := i - 2; k >= 0 && k < size {
					want = 0
					if k < 8 {
						want = byte(n >> (8 * k))
					}
				}
				if c != want {
					t.Fatalf("Put(%d bytes, %x): byte %d is %x, not %x", size, n, i-2, c, want)
				}
			}
		}
	}
	num.Put(nil, math.MaxUint64)
	b := make([]byte, 2)
	if num.Put(b, 258); b[0] != 2 || b[1] != 1 {
		t.Error("the document's example", b)
	}
}

// P1.1: of the first eight, whatever stands behind.
func TestGet(t *testing.T) {
	if num.Get(nil) != 0 || num.Get([]byte{}) != 0 {
		t.Error("Get of none")
	}
	b := mixed(20)
	for size := range 20 {
		want := uint64(0)
		for i := range min(size, 8) {
			want += uint64(b[i]) << (8 * i)
		}
		kept := bytes.Clone(b)
		if got := num.Get(b[:size]); got != want || !bytes.Equal(b, kept) {
			t.Errorf("Get of %d bytes: %x, not %x", size, got, want)
		}
	}
}

// P1.3: in eight bytes every number comes back; in fewer its lowest ones.
func TestPutGet(t *testing.T) {
	for _, n := range numbers {
		for size := range 20 {
			b := make([]byte, size)
			num.Put(b, n)
			want := n
			if size < 8 {
				want &= 1<<(8*size) - 1
			}
			if got := num.Get(b); got != want {
				t.Errorf("%x in %d bytes: %x", n, size, got)
			}
		}
	}
}

// P1.1: the sum is the one that all the world calls CRC-32.
func TestSum(t *testing.T) {
	for text, want := range map[string]uint32{"": 0, "123456789": 0xcbf43926, "a": 0xe8b7be43, "\x00": 0xd202ef8d, "\xff\xff\xff\xff": 0xffffffff} {
		if got := num.Sum([]byte(text)); got != want {
			t.Errorf("Sum(%q): %x, not %x", text, got, want)
		}
	}
	if num.Sum(nil) != 0 {
		t.Error("Sum of none")
	}
	for c := range 256 {
		if b := []byte{byte(c)}; num.Sum(b) != crc32.ChecksumIEEE(b) {
			t.Errorf("Sum of the byte %x", c)
		}
	}
	b := mixed(600)
	for n := range len(b) {
		if num.Sum(b[:n]) != crc32.ChecksumIEEE(b[:n]) {
			t.Fatalf("Sum of %d bytes", n)
		}
	}
	if !bytes.Equal(b, mixed(600)) {
		t.Error("Sum changed what it was given")
	}
}

// P1.5.
func TestSumOfOneBitTurned(t *testing.T) {
	for _, b := range [][]byte{{0}, make([]byte, api.Block), mixed(api.Block), mixed(31)} {
		sum := num.Sum(b)
		for i := range 8 * len(b) {
			b[i/8] ^= 1 << (i % 8)
			if num.Sum(b) == sum {
				t.Errorf("bit %d of %d bytes does not turn the sum", i, len(b))
			}
			b[i/8] ^= 1 << (i % 8)
		}
	}
}

// P1.1.
func TestZero(t *testing.T) {
	if !num.Zero(nil) || !num.Zero([]byte{}) {
		t.Error("Zero of none")
	}
	for _, size := range []int{1, 2, 7, 8, 9, api.Block} {
		b := make([]byte, size)
		if !num.Zero(b) {
			t.Errorf("Zero of %d bytes of 0", size)
		}
		for i := range b {
			for _, c := range []byte{1, 128, 255} {
				b[i] = c
				if num.Zero(b) {
					t.Errorf("Zero of %d bytes with %d at %d", size, c, i)
				}
			}
			b[i] = 0
		}
	}
}

// fits is P1.2's bound, written without a sum that may be too large.
func fits(size, from, n int) bool {
	for end := from; from >= 0 && n >= 0 && end <= size; end++ {
		if end-from == n {
			return true
		}
	}
	return false
}

// P1.2: every place and count about the edges, and those far beyond.
func TestCut(t *testing.T) {
	for size := range 6 {
		b := mixed(size)
		places := append([]int{-2, 0, 1, 2, 3, 4, 5, 6, 7}, odd...)
		for _, from := range places {
			for _, n := range places {
				got, e := num.Cut(b, from, n)
				switch {
				case !fits(size, from, n):
					if e != api.ErrRange || got != nil {
						t.Errorf("Cut(%d bytes, %d, %d): %v, %d", size, from, n, got, e)
					}
				case e != api.OK || !bytes.Equal(got, b[from:from+n]):
					t.Errorf("Cut(%d bytes, %d, %d): %v, %d", size, from, n, got, e)
				}
			}
		}
	}
	if got, e := num.Cut(nil, 0, 0); e != api.OK || len(got) != 0 {
		t.Error("nothing of a nil list", got, e)
	}
	if got, e := num.Cut(nil, 0, 1); e != api.ErrRange || got != nil {
		t.Error("a byte of a nil list", got, e)
	}
}

// P1.2 and the rules 4 and 5: a part shares nothing with the whole, nor behind its end.
func TestCutIsNewMemory(t *testing.T) {
	b := mixed(8)
	c, _ := num.Cut(b, 2, 3)
	for i := range c {
		c[i] = 0
	}
	_ = append(c, 0, 0, 0)
	if !bytes.Equal(b, mixed(8)) {
		t.Error("what was cut shares memory with the whole")
	}
	c, _ = num.Cut(b, 2, 3)
	clear(b)
	if !bytes.Equal(c, mixed(8)[2:5]) {
		t.Error("the whole shares memory with what was cut")
	}
	c, _ = num.Cut(b, 0, 8)
	if c[0] = 9; b[0] == 9 {
		t.Error("all of it shares memory with the whole")
	}
}

// P1.2: every place about the edges, and those far beyond.
func TestLay(t *testing.T) {
	for size := range 6 {
		for part := range 8 {
			b, c := mixed(size), bytes.Repeat([]byte{0}, part)
			for _, from := range append([]int{-2, 0, 1, 2, 3, 4, 5, 6, 7}, odd...) {
				got, e := num.Lay(b, from, c)
				if !fits(size, from, part) {
					if e != api.ErrRange || got != nil {
						t.Errorf("Lay(%d bytes, %d, %d bytes): %v, %d", size, from, part, got, e)
					}
					continue
				}
				want := append(append(bytes.Clone(b[:from]), c...), b[from+part:]...)
				if e != api.OK || !bytes.Equal(got, want) || !bytes.Equal(b, mixed(size)) || !num.Zero(c) {
					t.Errorf("Lay(%d bytes, %d, %d bytes): %v, %d", size, from, part, got, e)
				}
			}
		}
	}
	if got, e := num.Lay(nil, 0, nil); e != api.OK || len(got) != 0 {
		t.Error("nil over nil", got, e)
	}
	if got, e := num.Lay(nil, 0, []byte{1}); e != api.ErrRange || got != nil {
		t.Error("a byte over nil", got, e)
	}
	if got, e := num.Lay([]byte{1, 2}, 2, nil); e != api.OK || !bytes.Equal(got, []byte{1, 2}) {
		t.Error("nil at the end", got, e)
	}
}

// P1.2 and the rules 4 and 5: what is answered shares nothing with either list, also if nothing was laid.
func TestLayIsNewMemory(t *testing.T) {
	for _, c := range [][]byte{nil, {1, 3}, mixed(8)} {
		b, kept := mixed(8), bytes.Clone(c)
		got, _ := num.Lay(b, 0, c)
		whole := bytes.Clone(got)
		for i := range got {
			got[i] = 0
		}
		if !bytes.Equal(b, mixed(8)) || !bytes.Equal(c, kept) {
			t.Error("an answer shares memory with an argument")
		}
		got, _ = num.Lay(b, 0, c)
		clear(b)
		clear(c)
		if !bytes.Equal(got, whole) {
			t.Error("an argument shares memory with an answer")
		}
	}
	room := []byte{1, 2, 3, 4, 5, 6}
	got, e := num.Lay(room[:4], 1, room[:3])
	if e != api.OK || !bytes.Equal(got, []byte{1, 1, 2, 3}) || !bytes.Equal(room, []byte{1, 2, 3, 4, 5, 6}) {
		t.Error("a list over itself", got, e, room)
	}
}

// P1.4.
func TestLayCut(t *testing.T) {
	b := mixed(12)
	for part := range 13 {
		c := bytes.Repeat([]byte{0xa4}, part)
		for from := range 13 - part {
			laid, e := num.Lay(b, from, c)
			if e != api.OK {
				t.Fatal("Lay", e)
			}
			back, e := num.Cut(laid, from, part)
			if e != api.OK || !bytes.Equal(back, c) {
				t.Errorf("%d bytes laid at %d are cut as %v, %d", part, from, back, e)
			}
			if len(laid) != 12 || !bytes.Equal(laid[:from], b[:from]) || !bytes.Equal(laid[from+part:], b[from+part:]) {
				t.Errorf("%d bytes laid at %d: others changed: %v", part, from, laid)
			}
		}
	}
}

// differ is P1.2's sentence on Diff, place by place.
func differ(a, b []byte) (int, int) {
	var places []int
	for i := range len(a) + len(b) {
		inA, inB := i < len(a), i < len(b)
		if inA != inB || inA && a[i] != b[i] {
			places = append(places, i)
		}
	}
	if len(places) == 0 {
		return -1, -1
	}
	return places[0], places[len(places)-1] + 1
}

// P1.2: all pairs of short lists, of equal lengths and not.
func TestDiff(t *testing.T) {
	texts(5, func(a []byte) {
		texts(5, func(b []byte) {
			i, j := num.Diff(a, b)
			if x, y := differ(a, b); i != x || j != y {
				t.Errorf("Diff(%q, %q): %d, %d, not %d, %d", a, b, i, j, x, y)
			}
		})
	})
	for _, c := range []struct {
		a, b        []byte
		first, last int
	}{
		{nil, nil, -1, -1},
		{nil, []byte{}, -1, -1},
		{nil, []byte{0}, 0, 1},
		{[]byte{0}, nil, 0, 1},
		{[]byte("abcd"), []byte("axcy"), 1, 4},
		{mixed(300), mixed(300), -1, -1},
		{mixed(300), mixed(256), 256, 300},
		{mixed(256), append(mixed(256), 0), 256, 257},
	} {
		if i, j := num.Diff(c.a, c.b); i != c.first || j != c.last {
			t.Errorf("Diff(%d bytes, %d bytes): %d, %d", len(c.a), len(c.b), i, j)
		}
	}
}

// P1.2 on a whole block: any one place, and any two.
func TestDiffOfBlocks(t *testing.T) {
	a := mixed(api.Block)
	for i := range a {
		for j := i; j < len(a); j += 17 {
			b := bytes.Clone(a)
			b[i] = 0
			b[j] = 0
			if x, y := num.Diff(a, b); x != i || y != j+1 {
				t.Fatalf("turned at %d and %d: %d, %d", i, j, x, y)
			}
			if !bytes.Equal(a, mixed(api.Block)) {
				t.Fatal("Diff changed what it was given")
			}
		}
	}
}
