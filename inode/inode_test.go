package inode_test

import (
	"bytes"
	"math"
	"slices"
	"testing"

	"levee/api"
	"levee/inode"
)

const (
	lastId   = 1 << 62
	lastSize = 4166 * 256
)

// far are numbers that no part of an inode has.
var far = []int64{math.MinInt64, math.MinInt64 + 1, -1 << 32, -65536, -4096, -256, -64, -2, -1, 1<<62 + 1, math.MaxInt64 - 1, math.MaxInt64}

// shapes are some that can be: the least, the greatest, and such as have groups of other lengths.
var shapes = []api.Geo{
	{Group: 16, Inodes: 4, Groups: 1},
	{Group: 16, Inodes: 44, Groups: 1},
	{Group: 16, Inodes: 8, Groups: 3},
	{Group: 23, Inodes: 20, Groups: 5},
	{Group: 128, Inodes: 64, Groups: 16},
}

// wrong are shapes that can not be.
var wrong = []api.Geo{
	{},
	{Group: 15, Inodes: 8, Groups: 2},
	{Group: 129, Inodes: 8, Groups: 2},
	{Group: 16, Inodes: 0, Groups: 2},
	{Group: 16, Inodes: 6, Groups: 2},
	{Group: 16, Inodes: 48, Groups: 2},
	{Group: 16, Inodes: 8, Groups: 0},
	{Group: 16, Inodes: 8, Groups: 17},
	{Group: -16, Inodes: -8, Groups: -2},
	{Group: math.MaxInt, Inodes: math.MaxInt, Groups: math.MaxInt},
	{Group: math.MinInt, Inodes: math.MinInt, Groups: math.MinInt},
}

// slotsOf are the places for names in an inode, in their order.
func slotsOf(i *api.Inode) []*int {
	return []*int{&i.P[0], &i.P[1], &i.P[2], &i.P[3], &i.P[4], &i.P[5], &i.In, &i.Din}
}

// can is Right by the words of the chapter.
func can(i api.Inode) bool {
	zero := i.Links == 0 && i.Size == 0 && i.Id == 0
	held := i.Links >= 0 && i.Links <= 1000 && i.Size >= 0 && i.Size <= lastSize && i.Id >= 1 && i.Id <= lastId
	for _, b := range slotsOf(&i) {
		zero = zero && *b == 0
		held = held && *b >= 0 && *b <= 4095
	}
	switch i.Kind {
	case 0:
		return zero
	case 1:
		return held
	case 2:
		return held && i.Size&255 == 0
	case 3:
		return held && i.Size >= 1 && i.Size <= 255
	}
	return false
}

// laid is an inode's bytes by the words of the chapter, of one that can not be too.
func laid(i api.Inode) []byte {
	b := []byte{byte(i.Kind), 0, byte(i.Links), byte(i.Links >> 8)}
	for at := range 4 {
		b = append(b, byte(i.Size>>(8*at)))
	}
	for at := range 8 {
		b = append(b, byte(i.Id>>(8*at)))
	}
	for _, name := range slotsOf(&i) {
		b = append(b, byte(*name), byte(*name>>8))
	}
	return append(b, make([]byte, 64-len(b))...)
}

// said is what an inode's bytes say, whether it can be or not.
func said(b []byte) api.Inode {
	i := api.Inode{Kind: int(b[0]), Links: int(b[2]) + 256*int(b[3])}
	for at := range 4 {
		i.Size |= int64(b[4+at]) << (8 * at)
	}
	for at := range 8 {
		i.Id |= int64(b[8+at]) << (8 * at)
	}
	for k, name := range slotsOf(&i) {
		*name = int(b[16+2*k]) + 256*int(b[17+2*k])
	}
	return i
}

// some is an inode of a kind that can be, with other bytes in all its parts.
func some(kind int) api.Inode {
	if kind == 0 {
		return api.Inode{}
	}
	i := api.Inode{Kind: kind, Links: 0x0102, Size: 0x020300, Id: 0x0102030405060708}
	if kind == 3 {
		i.Size = 0x7e
	}
	for k, name := range slotsOf(&i) {
		*name = 0x0801 + 0x0102*k
	}
	return i
}

// edges calls f with inodes that have, in one part at a time, the numbers about its edges and such as are far; some can be, some can not.
func edges(f func(api.Inode)) {
	for kind := range 4 {
		from := some(kind)
		f(from)
		for _, links := range append([]int64{0, 1, 2, 255, 256, 999, 1000, 1001, 1002, 65535, 65536, 65537, 66536}, far...) {
			i := from
			i.Links = int(links)
			f(i)
		}
		for _, size := range append([]int64{0, 1, 2, 254, 255, 256, 257, 511, 512, 513, 65536, 1066495, lastSize - 256, lastSize - 255, lastSize - 1, lastSize, lastSize + 1, lastSize + 256, 1 << 31, 1 << 32, 1<<32 + 1, 1<<32 + 256, -255}, far...) {
			i := from
			i.Size = size
			f(i)
		}
		for _, id := range append([]int64{0, 1, 2, 255, 256, 1 << 31, 1 << 32, lastId - 1, lastId, lastId + 1}, far...) {
			i := from
			i.Id = id
			f(i)
		}
		for k := range 8 {
			for _, name := range append([]int64{0, 1, 2, 255, 256, 4094, 4095, 4096, 4097, 65535, 65536, 65537}, far...) {
				i := from
				*slotsOf(&i)[k] = int(name)
				f(i)
			}
		}
	}
	for _, kind := range append([]int64{4, 5, 255, 256, 257, 258, 259}, far...) {
		for base := range 4 {
			i := some(base)
			i.Kind = int(kind)
			f(i)
		}
	}
}

func TestExample(t *testing.T) {
	i := api.Inode{Kind: api.File, Links: 1, Size: 300, Id: 9}
	i.P[0], i.P[1] = 7, 9
	if n, l := inode.Blocks(i), inode.Names(i); n != 2 || !slices.Equal(l, []int{7, 9}) {
		t.Error("Blocks, Names", n, l)
	}
}

// P7.1: what can be, by name: the edges of the chapter.
func TestRightNamed(t *testing.T) {
	for _, x := range []struct {
		i    api.Inode
		want bool
	}{
		{api.Inode{}, true},
		{api.Inode{Links: 1}, false},
		{api.Inode{Size: 1}, false},
		{api.Inode{Id: 1}, false},
		{api.Inode{P: [6]int{5: 1}}, false},
		{api.Inode{In: 1}, false},
		{api.Inode{Din: 1}, false},
		{api.Inode{Kind: 1, Id: 1}, true},
		{api.Inode{Kind: 1}, false},
		{api.Inode{Kind: 1, Id: 1, Size: lastSize}, true},
		{api.Inode{Kind: 1, Id: 1, Size: lastSize + 1}, false},
		{api.Inode{Kind: 1, Id: 1, Size: -1}, false},
		{api.Inode{Kind: 1, Id: lastId, Links: 1000}, true},
		{api.Inode{Kind: 1, Id: lastId + 1}, false},
		{api.Inode{Kind: 1, Id: 1, Links: 1001}, false},
		{api.Inode{Kind: 1, Id: 1, Links: -1}, false},
		{api.Inode{Kind: 2, Id: 1}, true},
		{api.Inode{Kind: 2, Id: 1, Size: 256}, true},
		{api.Inode{Kind: 2, Id: 1, Size: lastSize}, true},
		{api.Inode{Kind: 2, Id: 1, Size: lastSize + 256}, false},
		{api.Inode{Kind: 2, Id: 1, Size: 255}, false},
		{api.Inode{Kind: 2, Id: 1, Size: -256}, false},
		{api.Inode{Kind: 2, Id: 0, Size: 256}, false},
		{api.Inode{Kind: 3, Id: 1}, false},
		{api.Inode{Kind: 3, Id: 1, Size: 1}, true},
		{api.Inode{Kind: 3, Id: 1, Size: 255}, true},
		{api.Inode{Kind: 3, Id: 1, Size: 256}, false},
		{api.Inode{Kind: 3, Id: 1, Size: -1}, false},
		{api.Inode{Kind: 3, Size: 255}, false},
		{api.Inode{Kind: 1, Id: 1, In: 4095, Din: 4095}, true},
		{api.Inode{Kind: 1, Id: 1, In: 4096}, false},
		{api.Inode{Kind: 1, Id: 1, Din: -1}, false},
		{api.Inode{Kind: 4, Id: 1}, false},
		{api.Inode{Kind: -1, Id: 1}, false},
	} {
		if inode.Right(x.i) != x.want {
			t.Errorf("Right(%v) is not %v", x.i, x.want)
		}
	}
}

// P7.1: Right and Put at all edges; P7.3: Get of Put.
func TestRightPutGet(t *testing.T) {
	good := 0
	edges(func(i api.Inode) {
		if inode.Right(i) != can(i) {
			t.Fatalf("Right(%v) is %v", i, !can(i))
		}
		b, e := inode.Put(i)
		if !can(i) {
			if e != api.ErrArg || len(b) != 0 {
				t.Fatalf("Put(%v) = %x, %d", i, b, e)
			}
			return
		}
		good++
		if e != api.OK || !bytes.Equal(b, laid(i)) {
			t.Fatalf("Put(%v) = %x, %d", i, b, e)
		}
		if back, e := inode.Get(b); e != api.OK || back != i {
			t.Fatalf("Get of Put(%v) = %v, %d", i, back, e)
		}
		again, _ := inode.Put(i)
		clear(b)
		if !bytes.Equal(again, laid(i)) {
			t.Fatal("two answers of Put share memory")
		}
	})
	if good < 100 {
		t.Error("only", good, "inodes could be")
	}
}

// held holds Get of 64 bytes against the words of the chapter.
func held(t *testing.T, b []byte) {
	t.Helper()
	want, errno := api.Inode{}, api.ErrForm
	if x := said(b); can(x) && bytes.Equal(laid(x), b) {
		want, errno = x, api.OK
	}
	kept := bytes.Clone(b)
	got, e := inode.Get(b)
	if e != errno || got != want {
		t.Fatalf("Get(%x) = %v, %d", b, got, e)
	}
	if !bytes.Equal(b, kept) {
		t.Fatal("Get changed its bytes")
	}
}

// P7.1: bytes that hold together, of inodes that can not be, are refused.
func TestGetBroken(t *testing.T) {
	refused := 0
	edges(func(i api.Inode) {
		held(t, laid(i))
		if _, e := inode.Get(laid(i)); e == api.ErrForm {
			refused++
		}
	})
	if refused < 100 {
		t.Error("only", refused, "were refused")
	}
	for _, b := range [][]byte{bytes.Repeat([]byte{255}, 64), bytes.Repeat([]byte{1}, 64), make([]byte, 64)} {
		held(t, b)
	}
}

// P7.1: every bit of an inode's bytes turned by itself, and every byte made each other one.
func TestGetTurned(t *testing.T) {
	for kind := range 4 {
		b := laid(some(kind))
		for at := range b {
			was := b[at]
			for other := range 256 {
				b[at] = byte(other)
				held(t, b)
			}
			b[at] = was
		}
	}
}

// P7.1: the second byte and those from the 32nd on are 0.
func TestGetRest(t *testing.T) {
	for kind := range 4 {
		for at := range 64 {
			b := laid(some(kind))
			if at == 1 || at >= 32 {
				b[at] = 1
				if i, e := inode.Get(b); e != api.ErrForm || i != (api.Inode{}) {
					t.Errorf("Get with byte %d of kind %d: %v, %d", at, kind, i, e)
				}
			}
		}
	}
}

// P7.1: bytes of other lengths, ahead of what they say.
func TestGetSize(t *testing.T) {
	good := laid(some(1))
	for _, b := range [][]byte{nil, {}, {1}, good[:1], good[:32], good[:63], append(bytes.Clone(good), 0), make([]byte, 65), make([]byte, 128), make([]byte, 256), bytes.Repeat([]byte{255}, 63)} {
		if i, e := inode.Get(b); e != api.ErrSize || i != (api.Inode{}) {
			t.Errorf("Get of %d bytes: %v, %d", len(b), i, e)
		}
	}
}

// P7.2: Size by 256, up, of every kind.
func TestBlocks(t *testing.T) {
	for size, want := range map[int64]int{
		0: 0, 1: 1, 255: 1, 256: 1, 257: 2, 300: 2, 511: 2, 512: 2, 513: 3, lastSize: 4166, lastSize + 1: 4167,
		-1: 0, -255: 0, -256: 0, -257: 0, math.MinInt64: 0, math.MinInt64 + 1: 0,
		math.MaxInt64: 1 << 55, math.MaxInt64 - 254: 1 << 55, math.MaxInt64 - 255: 1<<55 - 1,
	} {
		for kind := -1; kind < 5; kind++ {
			if n := inode.Blocks(api.Inode{Kind: kind, Size: size}); n != want {
				t.Errorf("Blocks of kind %d, size %d: %d", kind, size, n)
			}
		}
	}
	for n := range 4166 {
		for more := range int64(256) {
			size := int64(n)*256 + more + 1
			if got := inode.Blocks(api.Inode{Kind: 1, Size: size}); got != n+1 {
				t.Fatalf("Blocks of size %d: %d", size, got)
			}
		}
	}
}

// P7.2: Names are all that are not 0, in order, whatever they are.
func TestNames(t *testing.T) {
	values := []int{1, 4095, -1, 7, 7, math.MaxInt, math.MinInt, 2}
	for mask := range 256 {
		i := api.Inode{Kind: mask % 5, Id: int64(mask)}
		var want []int
		for k, name := range slotsOf(&i) {
			if mask>>k&1 == 1 {
				*name = values[k]
				want = append(want, values[k])
			}
		}
		got := inode.Names(i)
		if !slices.Equal(got, want) {
			t.Fatalf("Names(%v) = %v", i, got)
		}
		again := inode.Names(i)
		clear(got)
		if !slices.Equal(again, want) {
			t.Fatal("two answers of Names share memory")
		}
	}
}

// data is whether a block is one of data, by the words of chapter 3: superblocks, and groups of a header, a table, data.
func data(g api.Geo, b int) bool {
	return b >= 2 && b < 2+g.Group*g.Groups && (b-2)%g.Group >= 1+g.Inodes/4
}

// P7.2: each name by itself, at every block about the volume.
func TestWithinOne(t *testing.T) {
	for _, g := range shapes {
		for k := range 8 {
			for b := -3; b < 2+g.Group*g.Groups+3; b++ {
				i := some(1)
				clear(i.P[:])
				i.In, i.Din = 0, 0
				*slotsOf(&i)[k] = b
				if want := b == 0 || data(g, b); inode.Within(g, i) != want {
					t.Fatalf("Within(%v, %v) is %v", g, i, !want)
				}
			}
			for _, b := range far {
				i := api.Inode{Kind: 1, Id: 1}
				*slotsOf(&i)[k] = int(b)
				if inode.Within(g, i) {
					t.Fatalf("Within(%v, %v)", g, i)
				}
			}
		}
	}
}

// P7.2: all names of data blocks, none twice; any two of them the same; any of them no data block.
func TestWithinAll(t *testing.T) {
	for _, g := range shapes {
		first := 3 + g.Inodes/4
		for _, kind := range []int{0, 1, 2, 3, 9} {
			full := api.Inode{Kind: kind, Id: 1}
			for k, name := range slotsOf(&full) {
				if k < g.Group-1-g.Inodes/4 {
					*name = first + k
				}
			}
			if !inode.Within(g, full) {
				t.Fatalf("Within(%v, %v) is false", g, full)
			}
			for k := range 8 {
				for other := range k {
					i := full
					*slotsOf(&i)[k] = *slotsOf(&i)[other]
					want := *slotsOf(&i)[other] == 0
					if inode.Within(g, i) != want {
						t.Fatalf("Within(%v, %v) is %v", g, i, !want)
					}
				}
				i := full
				*slotsOf(&i)[k] = first - 1
				if inode.Within(g, i) {
					t.Fatalf("Within(%v, %v) with a block of the table", g, i)
				}
			}
		}
	}
}

// P7.2: no name is within every shape that can be, and within none that can not be.
func TestWithinShapes(t *testing.T) {
	one := api.Inode{Kind: 1, Id: 1, In: 7}
	for _, g := range shapes {
		if !inode.Within(g, api.Inode{}) || !inode.Within(g, api.Inode{Kind: 1, Id: 1}) {
			t.Errorf("Within(%v) of no names is false", g)
		}
	}
	for _, g := range wrong {
		for _, i := range []api.Inode{{}, {Kind: 1, Id: 1}, one, some(1)} {
			if inode.Within(g, i) {
				t.Errorf("Within(%v, %v)", g, i)
			}
		}
	}
}

// table is a block of four inodes, one of each kind.
func table() []byte {
	var b []byte
	for kind := range 4 {
		b = append(b, laid(some(kind))...)
	}
	return b
}

// places are such as no block has.
var places = []int{-1, -2, -64, math.MinInt, math.MinInt + 1, 4, 5, 64, 1 << 58, 1 << 62, math.MaxInt - 1, math.MaxInt}

// P7.2: the inode at each place; what is broken elsewhere does not matter.
func TestRead(t *testing.T) {
	b := table()
	for place := range 4 {
		if i, e := inode.Read(b, place); e != api.OK || i != some(place) {
			t.Errorf("Read at %d: %v, %d", place, i, e)
		}
	}
	for hurt := range 4 {
		x := table()
		x[64*hurt+63] = 1
		for place := range 4 {
			want, errno := some(place), api.OK
			if place == hurt {
				want, errno = api.Inode{}, api.ErrForm
			}
			if i, e := inode.Read(x, place); e != errno || i != want {
				t.Errorf("Read at %d, %d broken: %v, %d", place, hurt, i, e)
			}
		}
	}
	if !bytes.Equal(b, table()) {
		t.Error("Read changed its bytes")
	}
}

// P7.2: the length's error comes ahead of the place's, that ahead of the bytes'.
func TestReadRefused(t *testing.T) {
	all := bytes.Repeat([]byte{255}, 256)
	for _, place := range append([]int{0, 1, 2, 3}, places...) {
		for _, b := range [][]byte{nil, {}, {1}, table()[:64], table()[:255], append(table(), 0), make([]byte, 512)} {
			if i, e := inode.Read(b, place); e != api.ErrSize || i != (api.Inode{}) {
				t.Errorf("Read of %d bytes at %d: %v, %d", len(b), place, i, e)
			}
		}
	}
	for _, place := range places {
		for _, b := range [][]byte{table(), all} {
			if i, e := inode.Read(b, place); e != api.ErrRange || i != (api.Inode{}) {
				t.Errorf("Read at %d: %v, %d", place, i, e)
			}
		}
	}
	for place := range 4 {
		if i, e := inode.Read(all, place); e != api.ErrForm || i != (api.Inode{}) {
			t.Errorf("Read of bytes 255 at %d: %v, %d", place, i, e)
		}
	}
}

// P7.2, P7.3: what is laid at each place is read there, and the others stay, broken ones too; in new memory.
func TestLay(t *testing.T) {
	for _, from := range [][]byte{make([]byte, 256), table(), bytes.Repeat([]byte{0xa5}, 256)} {
		for place := range 4 {
			for kind := range 4 {
				kept := bytes.Clone(from)
				got, e := inode.Lay(from, place, some(kind))
				want := bytes.Clone(from)
				copy(want[64*place:], laid(some(kind)))
				if e != api.OK || !bytes.Equal(got, want) {
					t.Fatalf("Lay at %d of kind %d: %x, %d", place, kind, got, e)
				}
				if i, e := inode.Read(got, place); e != api.OK || i != some(kind) {
					t.Fatalf("Read of Lay at %d of kind %d: %v, %d", place, kind, i, e)
				}
				clear(got)
				if !bytes.Equal(from, kept) {
					t.Fatal("Lay changed or shares its bytes")
				}
			}
		}
	}
}

// P7.2: the length's error, the place's, the inode's, in this order; and nothing is changed.
func TestLayRefused(t *testing.T) {
	bad := api.Inode{Kind: 4, Id: 1}
	for _, i := range []api.Inode{{}, some(1), bad} {
		for _, place := range append([]int{0, 1, 2, 3}, places...) {
			for _, b := range [][]byte{nil, {}, {1}, table()[:64], table()[:255], append(table(), 0), make([]byte, 512)} {
				if x, e := inode.Lay(b, place, i); e != api.ErrSize || len(x) != 0 {
					t.Errorf("Lay on %d bytes at %d: %x, %d", len(b), place, x, e)
				}
			}
		}
		for _, place := range places {
			if x, e := inode.Lay(table(), place, i); e != api.ErrRange || len(x) != 0 {
				t.Errorf("Lay at %d: %x, %d", place, x, e)
			}
		}
	}
	edges(func(i api.Inode) {
		if can(i) {
			return
		}
		b := table()
		for place := range 4 {
			if x, e := inode.Lay(b, place, i); e != api.ErrArg || len(x) != 0 {
				t.Fatalf("Lay of %v at %d: %x, %d", i, place, x, e)
			}
		}
		if !bytes.Equal(b, table()) {
			t.Fatal("a refused Lay changed its bytes")
		}
	})
}
