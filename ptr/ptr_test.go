package ptr_test

import (
	"bytes"
	"cmp"
	"math"
	"slices"
	"testing"

	"levee/api"
	"levee/ptr"
)

// far are numbers that no way, place or name has. Of some a sum or a product wraps round to one that can be.
var far = []int{math.MinInt, math.MinInt + 1, -1 << 58, -1 << 57, -4166, -4096, -256, -71, -70, -65, -64, -6, -2, -1, 4096, 4097, 4166, 4167, math.MaxInt32, 1 << 57, 1 << 58, 1<<58 + 1, 1<<58 + 63, math.MaxInt - 70, math.MaxInt - 1, math.MaxInt}

// sizes are lengths that no block has.
var sizes = []int{0, 1, 4, 63, 64, 128, 252, 255, 257, 260, 512, 4096}

// ways lists all ways by the words of the chapter, in the order of the blocks.
func ways() []ptr.Way {
	var all []ptr.Way
	for a := range 6 {
		all = append(all, ptr.Way{A: a})
	}
	for b := range 64 {
		all = append(all, ptr.Way{Deep: 1, B: b})
	}
	for b := range 64 {
		for c := range 64 {
			all = append(all, ptr.Way{Deep: 2, B: b, C: c})
		}
	}
	return all
}

// mixed is a block without much order.
func mixed() []byte {
	b := make([]byte, api.Block)
	x := uint32(2463534242)
	for i := range b {
		x ^= x << 13
		x ^= x >> 17
		x ^= x << 5
		b[i] = byte(x)
	}
	return b
}

// P9.1 and P9.4: of all blocks of the largest file, the last one too, and of none beside it.
func TestOfAndBack(t *testing.T) {
	all := ways()
	if len(all) != api.MaxFile {
		t.Fatal("ways", len(all))
	}
	for n, want := range all {
		if w, e := ptr.Of(n); w != want || e != api.OK {
			t.Errorf("Of(%d): %v, %d, not %v", n, w, e, want)
		}
		if k, e := ptr.Back(want); k != n || e != api.OK {
			t.Errorf("Back(%v): %d, %d, not %d", want, k, e, n)
		}
	}
	for _, n := range far {
		if n >= 0 && n < api.MaxFile {
			continue
		}
		if w, e := ptr.Of(n); w != (ptr.Way{}) || e != api.ErrBig {
			t.Errorf("Of(%d): %v, %d", n, w, e)
		}
	}
	for n, want := range map[int]ptr.Way{5: {A: 5}, 6: {Deep: 1}, 70: {Deep: 2}, 200: {Deep: 2, B: 2, C: 2}, 4165: {Deep: 2, B: 63, C: 63}} {
		if w, e := ptr.Of(n); w != want || e != api.OK {
			t.Errorf("the document's example Of(%d): %v, %d", n, w, e)
		}
	}
}

// P9.4: a way that is behind another one is that of a later block.
func TestWaysRise(t *testing.T) {
	last, _ := ptr.Of(0)
	for n := 1; n < api.MaxFile; n++ {
		w, _ := ptr.Of(n)
		if cmp.Or(cmp.Compare(last.Deep, w.Deep), cmp.Compare(last.A, w.A), cmp.Compare(last.B, w.B), cmp.Compare(last.C, w.C)) >= 0 {
			t.Errorf("Of(%d): %v does not rise above %v", n, w, last)
		}
		last = w
	}
}

// P9.1: every way of numbers about the edges and far from them is one of the list, or can not be.
func TestBackOfWrongWays(t *testing.T) {
	numbers := append([]int{0, 1, 2, 3, 5, 6, 7, 62, 63, 64, 65}, far...)
	right := map[ptr.Way]int{}
	for n, w := range ways() {
		right[w] = n
	}
	met := 0
	for _, deep := range append([]int{0, 1, 2, 3, 4}, far...) {
		for _, a := range numbers {
			for _, b := range numbers {
				for _, c := range numbers {
					w := ptr.Way{Deep: deep, A: a, B: b, C: c}
					want, can := right[w]
					n, e := ptr.Back(w)
					if can {
						met++
					}
					if can && (n != want || e != api.OK) || !can && (n != 0 || e != api.ErrArg) {
						t.Fatalf("Back(%v): %d, %d", w, n, e)
					}
				}
			}
		}
	}
	if met != 5+9+9*9 {
		t.Error("ways of these that can be:", met)
	}
}

// P9.2: four bytes each, the lowest first, but for the highest bit.
func TestNames(t *testing.T) {
	blocks := [][]byte{make([]byte, api.Block), bytes.Repeat([]byte{0xff}, api.Block), bytes.Repeat([]byte{0x80}, api.Block), mixed()}
	for i := range api.Block {
		b := make([]byte, api.Block)
		b[i] = byte(0x81 + i)
		blocks = append(blocks, b)
	}
	for _, b := range blocks {
		kept := bytes.Clone(b)
		names, e := ptr.Names(b)
		if e != api.OK || len(names) != 64 || !bytes.Equal(b, kept) {
			t.Fatalf("Names(%x): %v, %d", b, names, e)
		}
		for i, name := range names {
			want := int(b[4*i]) + 256*int(b[4*i+1]) + 65536*int(b[4*i+2]) + 16777216*int(b[4*i+3]%128)
			if name != want {
				t.Fatalf("the name %d of %x: %d, not %d", i, b, name, want)
			}
		}
	}
}

// P9.2: no block is shorter or longer; of several errors the one that is named first.
func TestWrongBlocks(t *testing.T) {
	for _, n := range sizes {
		b := make([]byte, n, 512+n)
		if n == 0 {
			b = nil
		}
		if names, e := ptr.Names(b); len(names) != 0 || e != api.ErrSize {
			t.Errorf("Names of %d bytes: %v, %d", n, names, e)
		}
		for _, i := range []int{0, 63, 64, -1} {
			for _, name := range []int{0, 4095, 4096, -1} {
				if l, e := ptr.Lay(b, i, name); len(l) != 0 || e != api.ErrSize {
					t.Errorf("Lay(%d bytes, %d, %d): %v, %d", n, i, name, l, e)
				}
			}
		}
	}
}

// P9.2: places and names that can not be change nothing.
func TestLayOfWrongNames(t *testing.T) {
	b := mixed()
	names := append([]int{0, 1, 4095}, far...)
	for _, i := range append([]int{0, 1, 62, 63, 64, 65, 255, 256}, far...) {
		for _, name := range names {
			want := api.OK
			if name < 0 || name > 4095 {
				want = api.ErrArg
			}
			if i < 0 || i > 63 {
				want = api.ErrRange
			}
			l, e := ptr.Lay(b, i, name)
			if e != want || (len(l) == 0) != (e != api.OK) || !bytes.Equal(b, mixed()) {
				t.Errorf("Lay(%d, %d): %d bytes, %d, not %d", i, name, len(l), e, want)
			}
		}
	}
}

// P9.2 and P9.5: what is laid is named, over whatever stood there; all others stay, the bit of theirs that names none too.
func TestLay(t *testing.T) {
	for _, b := range [][]byte{make([]byte, api.Block), bytes.Repeat([]byte{0xff}, api.Block), mixed()} {
		before, _ := ptr.Names(b)
		for i := range 64 {
			for _, name := range []int{0, 1, 255, 256, 257, 0x0a0b, 4094, 4095} {
				l, e := ptr.Lay(b, i, name)
				want := slices.Concat(b[:4*i], []byte{byte(name), byte(name >> 8), 0, 0}, b[4*i+4:])
				if e != api.OK || !bytes.Equal(l, want) {
					t.Fatalf("Lay(%d, %d): %x, %d", i, name, l, e)
				}
				names, _ := ptr.Names(l)
				if names[i] != name || !slices.Equal(names[:i], before[:i]) || !slices.Equal(names[i+1:], before[i+1:]) {
					t.Fatalf("names behind Lay(%d, %d): %v", i, name, names)
				}
			}
		}
	}
}

// P9.2 and the rules 4 and 5: answers share no memory with what was given, nor with one another.
func TestNewMemory(t *testing.T) {
	room := append(mixed(), 1, 2, 3, 4)
	b := room[:api.Block]
	l, _ := ptr.Lay(b, 3, 7)
	other, _ := ptr.Lay(b, 3, 7)
	names, _ := ptr.Names(b)
	more, _ := ptr.Names(b)
	kept := slices.Clone(more)
	clear(l)
	clear(names)
	_, _ = append(l, 9), append(names, 9)
	if !bytes.Equal(room, append(mixed(), 1, 2, 3, 4)) {
		t.Error("an answer shares memory with its argument")
	}
	want := bytes.Clone(other)
	clear(b)
	if !bytes.Equal(other, want) || other[12] != 7 || !slices.Equal(more, kept) {
		t.Error("an argument shares memory with an answer")
	}
}

// span goes through the bytes one by one.
func span(off int64, n int) (int, int) {
	first, last := 0, -1
	for i := range max(n, 0) {
		block := int((off + int64(i)) >> 8)
		if i == 0 {
			first = block
		}
		last = block
	}
	return first, last
}

// spanned holds Span and Need against what is wanted.
func spanned(t *testing.T, off int64, n, first, last int) {
	t.Helper()
	if a, b := ptr.Span(off, n); a != first || b != last {
		t.Errorf("Span(%d, %d): %d, %d, not %d, %d", off, n, a, b, first, last)
	}
	k, need := last-first+1, 0
	if k > 0 {
		need = k + 3 + k/64
	}
	if got := ptr.Need(off, n); got != need {
		t.Errorf("Need(%d, %d): %d, not %d", off, n, got, need)
	}
}

// P9.3: bytes about the edges of blocks, of the ways, and of the largest file.
func TestSpan(t *testing.T) {
	const end = 4166 * 256
	for _, block := range []int64{0, 1, 5, 6, 7, 69, 70, 71, 133, 134, 4164, 4165, 4166, 4167} {
		for _, by := range []int64{-1, 0, 1, 2, 128, 255} {
			for _, n := range []int{1, 2, 3, 254, 255, 256, 257, 258, 511, 512, 513, 4096, 64*256 - 1, 64 * 256, 64*256 + 1, 128 * 256} {
				off := block*256 + by
				first, last := 0, -1
				if off >= 0 && off+int64(n) <= end {
					first, last = span(off, n)
				}
				spanned(t, off, n, first, last)
			}
		}
	}
	spanned(t, 0, end, 0, 4165)
	spanned(t, 1, end-1, 0, 4165)
	spanned(t, end-1, 1, 4165, 4165)
	spanned(t, 0, 300, 0, 1)
	if ptr.Need(0, 300) != 5 || ptr.Need(0, 1) != 4 || ptr.Need(0, end) != 4166+3+65 {
		t.Error("Need", ptr.Need(0, 300), ptr.Need(0, 1), ptr.Need(0, end))
	}
}

// P9.3: none, if there are no bytes, or they begin or end where no file has bytes; sums that wrap round are none either.
func TestSpanOfNone(t *testing.T) {
	const end = 4166 * 256
	offs := []int64{math.MinInt64, math.MinInt64 + 1, -1 << 32, -256, -1, 0, 1, 255, 256, end - 1, end, end + 1, 1 << 32, math.MaxInt64 - 256, math.MaxInt64 - 1, math.MaxInt64}
	for _, off := range offs {
		for _, n := range []int{math.MinInt, math.MinInt + 1, -1 << 32, -256, -1, 0} {
			spanned(t, off, n, 0, -1)
		}
		for _, n := range []int{end + 1, end + 256, 1 << 32, math.MaxInt - end, math.MaxInt - 256, math.MaxInt - 1, math.MaxInt} {
			spanned(t, off, n, 0, -1)
		}
		if off < 0 || off >= end {
			spanned(t, off, 1, 0, -1)
			spanned(t, off, 256, 0, -1)
		}
		if off > 0 {
			spanned(t, off, end, 0, -1)
		}
	}
	for n := 1; n < 600; n++ {
		spanned(t, int64(end-n+1), n, 0, -1)
	}
}

// P9.3: no bytes need more blocks than Need tells, wherever they begin.
func TestNeedIsEnough(t *testing.T) {
	for _, k := range []int{1, 2, 3, 5, 16, 17, 63, 64, 65, 66, 67, 127, 128, 129, 130, 192, 193, 194, 4096, 4166} {
		for first := 0; first+k <= api.MaxFile; first++ {
			named := map[ptr.Way]int{} // which block each block of names was last asked for
			for n := first; n < first+k; n++ {
				w, _ := ptr.Of(n)
				if w.Deep > 0 {
					named[ptr.Way{Deep: w.Deep, B: -1}] = n
				}
				if w.Deep > 1 {
					named[ptr.Way{Deep: 2, B: w.B}] = n
				}
			}
			if need := ptr.Need(int64(first)*api.Block, k*api.Block); need < k+len(named) {
				t.Fatalf("%d blocks from %d on need %d of names: %d in all", k, first, len(named), need)
			}
			if k > 130 && first > 200 && first < 4000 {
				first += 61
			}
		}
	}
}
