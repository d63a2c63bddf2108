package super_test

import (
	"bytes"
	"hash/crc32"
	"math"
	"testing"

	"levee/api"
	"levee/super"
)

const lastGen = 1 << 62

var (
	small    = api.Geo{Group: 16, Inodes: 8, Groups: 2}
	larger   = api.Geo{Group: 16, Inodes: 8, Groups: 3}
	greatest = api.Geo{Group: 128, Inodes: 64, Groups: 16}
)

var gens = []int64{1, 2, 3, 255, 256, 65535, 1 << 32, 0x0102030405060708, lastGen - 1, lastGen}

var wrongGens = []int64{0, -1, -2, math.MinInt64, math.MinInt64 + 1, lastGen + 1, math.MaxInt64 - 1, math.MaxInt64}

var wrongShapes = []api.Geo{
	{},
	{Group: 15, Inodes: 8, Groups: 2},
	{Group: 16, Inodes: 7, Groups: 2},
	{Group: 16, Inodes: 48, Groups: 2},
	{Group: 16, Inodes: 8, Groups: 17},
	{Group: 16 + 65536, Inodes: 8, Groups: 2},
	{Group: math.MinInt, Inodes: math.MinInt, Groups: math.MinInt},
	{Group: math.MaxInt, Inodes: math.MaxInt, Groups: math.MaxInt},
}

// raw lays a superblock by the chapter's words, one that can not be too.
func raw(gen uint64, group, inodes, groups int) []byte {
	b := make([]byte, 256)
	copy(b, []byte{0x4c, 0x56, 0x45, 0x45})
	for i := range 8 {
		b[4+i] = byte(gen >> (8 * i))
	}
	for i, n := range []int{group, inodes, groups} {
		b[12+2*i], b[13+2*i] = byte(n), byte(n>>8)
	}
	return summed(b)
}

// summed gives bytes the sum that they must have.
func summed(b []byte) []byte {
	sum := crc32.ChecksumIEEE(b[:252])
	for i := range 4 {
		b[252+i] = byte(sum >> (8 * i))
	}
	return b
}

func of(t *testing.T, gen int64, g api.Geo) []byte {
	t.Helper()
	b, e := super.Put(super.Super{Gen: gen, Geo: g})
	if e != api.OK {
		t.Fatalf("Put(%d, %v): %d", gen, g, e)
	}
	return b
}

// P4.1: the bytes of a superblock. P4.3: Get of Put is the superblock.
func TestPutGet(t *testing.T) {
	for _, gen := range gens {
		for _, g := range []api.Geo{small, larger, greatest, {Group: 127, Inodes: 60, Groups: 1}} {
			b := of(t, gen, g)
			if !bytes.Equal(b, raw(uint64(gen), g.Group, g.Inodes, g.Groups)) {
				t.Errorf("Put(%d, %v) = %x", gen, g, b)
			}
			if s, e := super.Get(b); s != (super.Super{Gen: gen, Geo: g}) || e != api.OK {
				t.Errorf("Get of Put(%d, %v) = %v, %d", gen, g, s, e)
			}
		}
	}
}

func TestPutWrong(t *testing.T) {
	refused := func(s super.Super) {
		if b, e := super.Put(s); len(b) != 0 || e != api.ErrArg {
			t.Errorf("Put(%v) = %x, %d", s, b, e)
		}
	}
	for _, gen := range wrongGens {
		refused(super.Super{Gen: gen, Geo: small})
	}
	for _, g := range wrongShapes {
		refused(super.Super{Gen: 1, Geo: g})
	}
}

// P4.1: the errors of Get, the one named first of several.
func TestGetWrong(t *testing.T) {
	otherRest := func(at int) []byte {
		b := raw(2, 16, 8, 2)
		b[at] = 1
		return summed(b)
	}
	otherMark := func(at int) []byte {
		b := raw(2, 16, 8, 2)
		b[at] ^= 0x20
		return b
	}
	badSum := raw(0, 16, 8, 2)
	badSum[255]++
	for _, c := range []struct {
		b    []byte
		want api.Errno
	}{
		{nil, api.ErrSize},
		{[]byte{}, api.ErrSize},
		{raw(2, 16, 8, 2)[:255], api.ErrSize},
		{append(raw(2, 16, 8, 2), 0), api.ErrSize},
		{make([]byte, 512), api.ErrSize},
		{make([]byte, 256), api.ErrForm},
		{otherMark(0), api.ErrForm},
		{otherMark(3), api.ErrForm},
		{summed(otherMark(1)), api.ErrForm},
		{badSum, api.ErrSum},
		{raw(0, 16, 8, 2), api.ErrArg},
		{raw(lastGen+1, 16, 8, 2), api.ErrArg},
		{raw(1<<63, 16, 8, 2), api.ErrArg},
		{raw(math.MaxUint64, 16, 8, 2), api.ErrArg},
		{raw(2, 15, 8, 2), api.ErrArg},
		{raw(2, 0xffff, 0xffff, 0xffff), api.ErrArg},
		{raw(2, 16, 9, 2), api.ErrArg},
		{raw(2, 16, 8, 0), api.ErrArg},
		{raw(2, 16, 8, 256+2), api.ErrArg},
		{otherRest(18), api.ErrForm},
		{otherRest(130), api.ErrForm},
		{otherRest(251), api.ErrForm},
	} {
		if s, e := super.Get(c.b); s != (super.Super{}) || e != c.want {
			t.Errorf("Get(%x) = %v, %d, not %d", c.b, s, e, c.want)
		}
	}
}

// P4.3: a byte that is another one is told, whichever it is.
func TestEveryBitIsTold(t *testing.T) {
	for at := range 256 {
		for turn := 1; turn < 256; turn++ {
			b := of(t, 77, small)
			b[at] ^= byte(turn)
			want := api.ErrSum
			if at < 4 {
				want = api.ErrForm
			}
			if s, e := super.Get(b); s != (super.Super{}) || e != want {
				t.Fatalf("byte %d turned by %x: %v, %d", at, turn, s, e)
			}
		}
	}
}

func chosen(t *testing.T, a, b []byte, blocks int, gen int64, place int) {
	t.Helper()
	s, at, e := super.Choose(a, b, blocks)
	if gen == 0 {
		if s != (super.Super{}) || at != 0 || e != api.ErrSuper {
			t.Errorf("Choose = %v, %d, %d, not ErrSuper", s, at, e)
		}
		return
	}
	if s.Gen != gen || at != place || e != api.OK {
		t.Errorf("Choose = %v, %d, %d, not %d at %d", s, at, e, gen, place)
	}
}

// P4.2: of those that can be, at their place and on so many blocks, the greater Gen.
func TestChoose(t *testing.T) {
	two, three, four := of(t, 2, small), of(t, 3, larger), of(t, 4, small)
	last, ahead := of(t, lastGen, small), of(t, lastGen-1, small)
	for _, c := range []struct {
		a, b   []byte
		blocks int
		gen    int64
		place  int
	}{
		{two, three, 50, 3, 1},
		{two, three, math.MaxInt, 3, 1},
		{two, three, 49, 2, 0},
		{two, three, 34, 2, 0},
		{two, three, 33, 0, 0},
		{two, three, 0, 0, 0},
		{two, three, -1, 0, 0},
		{two, three, math.MinInt, 0, 0},
		{four, three, 50, 4, 0},
		{four, three, 49, 4, 0},
		{last, three, 50, lastGen, 0},
		{last, ahead, 50, lastGen, 0},
		{two, ahead, 50, lastGen - 1, 1},
		{three, two, 50, 0, 0},
		{three, three, 50, 3, 1},
		{two, two, 50, 2, 0},
		{two, four, 50, 2, 0},
		{nil, three, 50, 3, 1},
		{two, nil, 50, 2, 0},
		{nil, two, 50, 0, 0},
		{three, nil, 50, 0, 0},
		{nil, nil, 50, 0, 0},
		{make([]byte, 256), make([]byte, 256), 50, 0, 0},
		{two[:255], three, 50, 3, 1},
		{raw(2, 16, 9, 2), three, 50, 3, 1},
		{raw(4, 16, 9, 2), raw(5, 15, 8, 2), 50, 0, 0},
	} {
		chosen(t, c.a, c.b, c.blocks, c.gen, c.place)
	}
}

func TestChooseTellsTheShape(t *testing.T) {
	s, _, e := super.Choose(of(t, 2, small), of(t, 1, larger), 50)
	if s != (super.Super{Gen: 2, Geo: small}) || e != api.OK {
		t.Error("Choose", s, e)
	}
	s, _, e = super.Choose(of(t, 2, small), of(t, 3, larger), 50)
	if s != (super.Super{Gen: 3, Geo: larger}) || e != api.OK {
		t.Error("Choose", s, e)
	}
}

// P4.2: one generation more, with the other shape, at its place.
func TestNext(t *testing.T) {
	for _, gen := range gens[:len(gens)-1] {
		s, place, e := super.Next(super.Super{Gen: gen, Geo: small}, larger)
		if s != (super.Super{Gen: gen + 1, Geo: larger}) || place != int((gen+1)%2) || e != api.OK {
			t.Errorf("Next(%d) = %v, %d, %d", gen, s, place, e)
		}
	}
}

func TestNextWrong(t *testing.T) {
	refused := func(s super.Super, g api.Geo) {
		if n, place, e := super.Next(s, g); n != (super.Super{}) || place != 0 || e != api.ErrArg {
			t.Errorf("Next(%v, %v) = %v, %d, %d", s, g, n, place, e)
		}
	}
	refused(super.Super{Gen: lastGen, Geo: small}, small)
	for _, gen := range wrongGens {
		refused(super.Super{Gen: gen, Geo: small}, small)
	}
	for _, g := range wrongShapes {
		refused(super.Super{Gen: 2, Geo: g}, small)
		refused(super.Super{Gen: 2, Geo: small}, g)
	}
}

// P4.4: Next stands at the other place and is chosen; with any byte of it broken the older one is.
func TestNextIsChosen(t *testing.T) {
	for _, gen := range []int64{1, 2, 9, 1 << 40, lastGen - 1} {
		old := super.Super{Gen: gen, Geo: small}
		next, place, _ := super.Next(old, larger)
		var both [2][]byte
		both[1-place], both[place] = of(t, gen, small), of(t, next.Gen, next.Geo)
		chosen(t, both[0], both[1], 50, gen+1, place)
		for at := range 256 {
			both[place][at] ^= 0x10
			chosen(t, both[0], both[1], 50, gen, 1-place)
			both[place][at] ^= 0x10
		}
	}
}

// Rules 4 and 5: what is handed in is not changed, what is answered is new.
func TestMemory(t *testing.T) {
	a, b := of(t, 2, small), of(t, 3, larger)
	super.Get(a)
	super.Choose(a, b, 50)
	if !bytes.Equal(a, raw(2, 16, 8, 2)) || !bytes.Equal(b, raw(3, 16, 8, 3)) {
		t.Error("bytes that were handed in were changed")
	}
	clear(a)
	if !bytes.Equal(of(t, 2, small), raw(2, 16, 8, 2)) {
		t.Error("Put shares memory")
	}
}
