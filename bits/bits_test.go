package bits_test

import (
	"bytes"
	"math"
	"testing"

	"levee/api"
	"levee/bits"
)

// far are numbers that no bit of the tests' maps has.
var far = []int{math.MinInt, math.MinInt + 1, -4096, -9, -8, -7, -2, -1, math.MaxInt32, math.MaxInt - 7, math.MaxInt - 1, math.MaxInt}

// dice is a row of numbers that is the same each time.
type dice uint64

func (d *dice) next() uint64 {
	*d ^= *d << 13
	*d ^= *d >> 7
	*d ^= *d << 17
	return uint64(*d)
}

// maps calls f with maps of 0 to 5 bytes: empty, full, with long rows and with short ones.
func maps(f func([]byte)) {
	f(nil)
	f([]byte{})
	for first := range 256 {
		f([]byte{byte(first)})
	}
	d := dice(7)
	for round := range 400 {
		b := make([]byte, 2+round%4)
		for i := range b {
			b[i] = byte(d.next() >> 20)
			if round%3 != 0 {
				b[i] &= byte(d.next() >> 20)
			}
			if round%5 == 0 {
				b[i] |= byte(d.next() >> 20)
			}
		}
		switch round {
		case 0, 1, 2, 3:
			clear(b)
		case 4, 5, 6, 7:
			for i := range b {
				b[i] = 255
			}
		}
		f(b)
	}
}

// spread is the map as the tests' own list of bits.
func spread(b []byte) []bool {
	var all []bool
	for _, x := range b {
		for range 8 {
			all = append(all, x%2 == 1)
			x /= 2
		}
	}
	return all
}

// firsts are numbers n, with those that are below 0 and above a map's bits.
func firsts(b []byte) []int {
	all := append([]int{}, far...)
	for n := range 8*len(b) + 3 {
		all = append(all, n)
	}
	return all
}

// part is the first n of a list.
func part(all []bool, n int) []bool {
	if n < 0 {
		return nil
	}
	if n > len(all) {
		return all
	}
	return all[:n]
}

// rows is how many of a list are not set in a row, from each place on.
func rows(all []bool) []int {
	long := make([]int, len(all))
	for i := len(all) - 1; i >= 0; i-- {
		if all[i] {
			continue
		}
		long[i] = 1
		if i+1 < len(all) {
			long[i] += long[i+1]
		}
	}
	return long
}

func TestExample(t *testing.T) {
	b := []byte{0b00010011}
	if at := bits.First(b, 8, 0); at != 2 {
		t.Error("First", at)
	}
	if at := bits.Run(b, 8, 3); at != 5 {
		t.Error("Run", at)
	}
	if at, long := bits.Longest(b, 8); at != 5 || long != 3 {
		t.Error("Longest", at, long)
	}
}

// P5.1: a bit that is there is told, one that is not is not set.
func TestGet(t *testing.T) {
	maps(func(b []byte) {
		all := spread(b)
		for i := range all {
			if bits.Get(b, i) != all[i] {
				t.Fatalf("Get(%x, %d)", b, i)
			}
		}
		for i := range 20 {
			if bits.Get(b, len(all)+i) {
				t.Fatalf("Get(%x, %d)", b, len(all)+i)
			}
		}
		for _, i := range far {
			if bits.Get(b, i) {
				t.Fatalf("Get(%x, %d)", b, i)
			}
		}
	})
}

// P5.1, P5.3: Set answers another map in which that bit alone is turned.
func TestSet(t *testing.T) {
	maps(func(b []byte) {
		kept := bytes.Clone(b)
		for i := range 8 * len(b) {
			for _, on := range []bool{false, true} {
				got, e := bits.Set(b, i, on)
				want := spread(b)
				want[i] = on
				if e != api.OK || len(got) != len(b) {
					t.Fatalf("Set(%x, %d, %v) = %x, %d", b, i, on, got, e)
				}
				for k, is := range spread(got) {
					if is != want[k] {
						t.Fatalf("Set(%x, %d, %v) = %x: bit %d", b, i, on, got, k)
					}
				}
				for k := range got {
					got[k] ^= 255
				}
				if !bytes.Equal(b, kept) {
					t.Fatalf("Set(%x, %d, %v) changed the map to %x", kept, i, on, b)
				}
			}
		}
	})
}

// P5.1: bits that are not there are refused.
func TestSetRefused(t *testing.T) {
	maps(func(b []byte) {
		kept := bytes.Clone(b)
		for _, i := range append([]int{8 * len(b), 8*len(b) + 1, 8*len(b) + 8}, far...) {
			for _, on := range []bool{false, true} {
				if got, e := bits.Set(b, i, on); e != api.ErrRange || len(got) != 0 {
					t.Fatalf("Set(%x, %d, %v) = %x, %d", b, i, on, got, e)
				}
			}
		}
		if !bytes.Equal(b, kept) {
			t.Fatalf("a refused Set changed %x to %x", kept, b)
		}
	})
}

// P5.1: Count.
func TestCount(t *testing.T) {
	maps(func(b []byte) {
		for _, n := range firsts(b) {
			want := 0
			for _, is := range part(spread(b), n) {
				if is {
					want++
				}
			}
			if got := bits.Count(b, n); got != want {
				t.Fatalf("Count(%x, %d) = %d, not %d", b, n, got, want)
			}
		}
	})
}

// firstFree is First by the words of the promise.
func firstFree(all []bool, from int) int {
	if from < 0 || from > len(all) {
		from = 0
	}
	for i := from; i < len(all); i++ {
		if !all[i] {
			return i
		}
	}
	for i := 0; i < from; i++ {
		if !all[i] {
			return i
		}
	}
	return -1
}

// P5.2, P5.4: First goes on from a place and round, and finds one just if not all of the first n are set.
func TestFirst(t *testing.T) {
	maps(func(b []byte) {
		for _, n := range firsts(b) {
			all := part(spread(b), n)
			for _, from := range firsts(b) {
				want := firstFree(all, from)
				got := bits.First(b, n, from)
				if got != want {
					t.Fatalf("First(%x, %d, %d) = %d, not %d", b, n, from, got, want)
				}
				if (got >= 0) != (bits.Count(b, n) < len(all)) {
					t.Fatalf("First(%x, %d, %d) = %d, Count is %d", b, n, from, got, bits.Count(b, n))
				}
			}
		}
	})
}

// P5.2, P5.4: Run finds the least place of a row, just if the longest one is as long.
func TestRun(t *testing.T) {
	maps(func(b []byte) {
		for _, n := range firsts(b) {
			long := rows(part(spread(b), n))
			_, most := bits.Longest(b, n)
			for _, want := range firsts(b) {
				place := -1
				for at := len(long) - 1; at >= 0 && want >= 1; at-- {
					if long[at] >= want {
						place = at
					}
				}
				got := bits.Run(b, n, want)
				if got != place {
					t.Fatalf("Run(%x, %d, %d) = %d, not %d", b, n, want, got, place)
				}
				if want >= 1 && (got >= 0) != (most >= want) {
					t.Fatalf("Run(%x, %d, %d) = %d, the longest is %d", b, n, want, got, most)
				}
			}
		}
	})
}

// P5.2: the longest row, the first one of its length, and none.
func TestLongest(t *testing.T) {
	maps(func(b []byte) {
		for _, n := range firsts(b) {
			at, most := 0, 0
			for i, long := range rows(part(spread(b), n)) {
				if long > most {
					at, most = i, long
				}
			}
			if gotAt, got := bits.Longest(b, n); gotAt != at || got != most {
				t.Fatalf("Longest(%x, %d) = %d, %d, not %d, %d", b, n, gotAt, got, at, most)
			}
		}
	})
}

// P5.2: rows that end with the map, or with the first n, or go on behind them.
func TestRowsAtTheEnd(t *testing.T) {
	b := []byte{0xff, 0x1f, 0x00}
	for _, c := range []struct{ n, want, at, longAt, long int }{
		{24, 11, 13, 13, 11},
		{24, 12, -1, 13, 11},
		{99, 11, 13, 13, 11},
		{23, 11, -1, 13, 10},
		{23, 10, 13, 13, 10},
		{16, 3, 13, 13, 3},
		{16, 4, -1, 13, 3},
		{14, 1, 13, 13, 1},
		{13, 1, -1, 0, 0},
		{0, 1, -1, 0, 0},
	} {
		if at := bits.Run(b, c.n, c.want); at != c.at {
			t.Errorf("Run(.., %d, %d) = %d", c.n, c.want, at)
		}
		if at, long := bits.Longest(b, c.n); at != c.longAt || long != c.long {
			t.Errorf("Longest(.., %d) = %d, %d", c.n, at, long)
		}
	}
	same := []byte{0b10011001, 0b11111001}
	if at, long := bits.Longest(same, 16); at != 1 || long != 2 {
		t.Error("of two rows of the same length not the first one", at, long)
	}
}

// P6 of the whole: lists that are not there.
func TestNil(t *testing.T) {
	for _, n := range append([]int{0, 1, 8}, far...) {
		for _, k := range append([]int{0, 1, 8}, far...) {
			if bits.First(nil, n, k) != -1 || bits.Run(nil, n, k) != -1 {
				t.Error("a map without bits has one that is not set", n, k)
			}
		}
		if at, long := bits.Longest(nil, n); at != 0 || long != 0 || bits.Count(nil, n) != 0 || bits.Get(nil, n) {
			t.Error("a map without bits has rows", n)
		}
	}
}

// No call writes into the map that it is asked of.
func TestMapStays(t *testing.T) {
	maps(func(b []byte) {
		kept := bytes.Clone(b)
		for n := range 8*len(b) + 1 {
			bits.Get(b, n)
			bits.Count(b, n)
			bits.First(b, n, n/2)
			bits.Run(b, n, 2)
			bits.Longest(b, n)
		}
		if !bytes.Equal(b, kept) {
			t.Fatalf("%x became %x", kept, b)
		}
	})
}
