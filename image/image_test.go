package image_test

import (
	"bytes"
	"encoding/binary"
	"hash/crc32"
	"math"
	"slices"
	"testing"

	"levee/api"
	"levee/image"
)

// odd are numbers that no row has as its kind or count.
var odd = []int{math.MinInt, math.MinInt + 1, math.MinInt32, -257, -256, -255, -4096, -2, -1, 4097, 65535, 65536, 65537, math.MaxInt32, math.MaxInt/256 + 1, math.MaxInt - 256, math.MaxInt - 1, math.MaxInt}

// block is one block: of 0, if it is called 0, else with that letter at its beginning, or for great letters at its end.
func block(name byte) []byte {
	b := make([]byte, api.Block)
	switch {
	case name >= 'a':
		b[0] = name
	case name >= 'A':
		b[api.Block-1] = name
	}
	return b
}

// disk is the bytes of blocks of these names.
func disk(names string) []byte {
	var b []byte
	for i := range len(names) {
		b = append(b, block(names[i])...)
	}
	return b
}

// kinds are the kinds of blocks, by the chapter's words.
func kinds(b []byte) []int {
	var l []int
	for i := 0; i < len(b); i += api.Block {
		this := string(b[i : i+api.Block])
		switch {
		case this == string(make([]byte, api.Block)):
			l = append(l, image.Zero)
		case i > 0 && this == string(b[i-api.Block:i]):
			l = append(l, image.Same)
		default:
			l = append(l, image.Raw)
		}
	}
	return l
}

// rows are the rows of a disk's bytes, by the chapter's words.
func rows(b []byte) []image.Row {
	l, all := kinds(b), []image.Row(nil)
	for i := 0; i < len(l); {
		j := i
		for j < len(l) && l[j] == l[i] {
			j++
		}
		r := image.Row{Kind: l[i], Count: j - i}
		if l[i] == image.Raw {
			r.Data = slices.Clone(b[i*api.Block : j*api.Block])
		}
		all = append(all, r)
		i = j
	}
	return all
}

// sealed is p with its sum behind it.
func sealed(p []byte) []byte {
	return binary.LittleEndian.AppendUint32(slices.Clone(p), crc32.ChecksumIEEE(p))
}

// written is what stands in a packed one for a number of blocks and rows, whether these go together or not.
func written(blocks int, l ...image.Row) []byte {
	p := binary.LittleEndian.AppendUint16([]byte{0x4c, 0x49, 0x4d, 0x47}, uint16(blocks))
	for _, r := range l {
		p = binary.LittleEndian.AppendUint16(append(p, byte(r.Kind)), uint16(r.Count))
		p = append(p, r.Data...)
	}
	return p
}

// packed is a disk's bytes packed, by the chapter's words.
func packed(b []byte) []byte {
	return sealed(written(len(b)/api.Block, rows(b)...))
}

func zero(n int) image.Row { return image.Row{Kind: image.Zero, Count: n} }
func same(n int) image.Row { return image.Row{Kind: image.Same, Count: n} }

// raw is a row of blocks of these names, as they are.
func raw(names string) image.Row {
	return image.Row{Kind: image.Raw, Count: len(names), Data: disk(names)}
}

func equal(l, m []image.Row) bool {
	return slices.EqualFunc(l, m, func(r, s image.Row) bool {
		return r.Kind == s.Kind && r.Count == s.Count && bytes.Equal(r.Data, s.Data)
	})
}

// right holds all that is promised of a disk's bytes.
func right(t *testing.T, b []byte) {
	t.Helper()
	ahead := slices.Clone(b)
	l, e := image.Rows(b)
	if e != api.OK || !equal(l, rows(b)) {
		t.Fatalf("Rows: %d rows, %d, not %d", len(l), e, len(rows(b)))
	}
	for _, r := range l {
		if r.Kind != image.Raw && r.Data != nil {
			t.Error("Data of a row that has none")
		}
	}
	if c, e := image.Blocks(l); e != api.OK || !bytes.Equal(c, b) {
		t.Error("Blocks of Rows", e)
	}
	p, e := image.Pack(b)
	if e != api.OK || !bytes.Equal(p, packed(b)) {
		t.Error("Pack", e, len(p), len(packed(b)))
	}
	if n, e := image.Size(b); e != api.OK || n != len(p) {
		t.Error("Size", n, e, len(p))
	}
	if len(p) > len(b)+3*len(b)/api.Block+10 {
		t.Error("Pack has too many bytes", len(p), len(b))
	}
	if c, e := image.Unpack(p); e != api.OK || !bytes.Equal(c, b) {
		t.Error("Unpack of Pack", e)
	}
	if !bytes.Equal(b, ahead) {
		t.Error("the bytes were changed")
	}
}

// refused holds what are no disk's bytes against the calls.
func refused(t *testing.T, b []byte) {
	t.Helper()
	if l, e := image.Rows(b); l != nil || e != api.ErrArg {
		t.Error("Rows of", len(b), "bytes:", e)
	}
	if p, e := image.Pack(b); p != nil || e != api.ErrArg {
		t.Error("Pack of", len(b), "bytes:", e)
	}
	if n, e := image.Size(b); n != 0 || e != api.ErrArg {
		t.Error("Size of", len(b), "bytes:", n, e)
	}
}

// unmade holds rows that no disk has against Blocks.
func unmade(t *testing.T, what string, l ...image.Row) {
	t.Helper()
	if b, e := image.Blocks(l); b != nil || e != api.ErrArg {
		t.Errorf("Blocks of %s: %d bytes, %d", what, len(b), e)
	}
}

// made holds rows that a disk has against Blocks.
func made(t *testing.T, names string, l ...image.Row) {
	t.Helper()
	if b, e := image.Blocks(l); e != api.OK || !bytes.Equal(b, disk(names)) {
		t.Errorf("Blocks of %s: %d bytes, %d", names, len(b), e)
	}
}

// opened holds what Unpack answers of bytes that are none.
func opened(t *testing.T, what string, p []byte, want api.Errno) {
	t.Helper()
	if b, e := image.Unpack(p); b != nil || e != want {
		t.Errorf("Unpack of %s: %d bytes, %d, not %d", what, len(b), e, want)
	}
}

// The chapter's example.
func TestExample(t *testing.T) {
	p, e := image.Pack(make([]byte, 3*256))
	want := []byte{0x4c, 0x49, 0x4d, 0x47, 3, 0, 0, 3, 0}
	want = binary.LittleEndian.AppendUint32(want, crc32.ChecksumIEEE(want))
	if e != api.OK || !bytes.Equal(p, want) || len(p) != 13 {
		t.Errorf("Pack: % x, %d", p, e)
	}
}

// P32.1: each kind at each place that the chapter names, by hand.
func TestRows(t *testing.T) {
	for _, c := range []struct {
		names string
		want  []image.Row
	}{
		{"0", []image.Row{zero(1)}},
		{"a", []image.Row{raw("a")}},
		{"A", []image.Row{raw("A")}},
		{"00", []image.Row{zero(2)}},
		{"aa", []image.Row{raw("a"), same(1)}},
		{"ab", []image.Row{raw("ab")}},
		{"aAa", []image.Row{raw("aAa")}},
		{"aaa", []image.Row{raw("a"), same(2)}},
		{"a00", []image.Row{raw("a"), zero(2)}},
		{"00aab", []image.Row{zero(2), raw("a"), same(1), raw("b")}},
		{"a0a", []image.Row{raw("a"), zero(1), raw("a")}},
		{"aa0aa", []image.Row{raw("a"), same(1), zero(1), raw("a"), same(1)}},
		{"aabb", []image.Row{raw("a"), same(1), raw("b"), same(1)}},
		{"abbba", []image.Row{raw("ab"), same(2), raw("a")}},
	} {
		l, e := image.Rows(disk(c.names))
		if e != api.OK || !equal(l, c.want) {
			t.Errorf("Rows of %s: %d rows, %d", c.names, len(l), e)
		}
		right(t, disk(c.names))
		made(t, c.names, c.want...)
	}
}

// letters calls f with all texts of up to most letters of a set.
func letters(set string, most int, f func(names string)) {
	var all func(names string)
	all = func(names string) {
		if names != "" {
			f(names)
		}
		if len(names) < most {
			for _, c := range set {
				all(names + string(c))
			}
		}
	}
	all("")
}

// P32.1 to P32.4: all disks of up to six blocks, of three that differ.
func TestAllDisks(t *testing.T) {
	letters("0aB", 6, func(names string) {
		right(t, disk(names))
		if t.Failed() {
			t.Fatal(names)
		}
	})
}

// P32.1, P32.4: one block and MaxBlocks, all of one kind or of many; the greatest one that Pack can have is Raw alone.
func TestGreatest(t *testing.T) {
	all := make([]byte, api.MaxBlocks*api.Block)
	right(t, all)
	if n, _ := image.Size(all); n != 13 {
		t.Error("Size of 0", n)
	}
	for i := range all {
		all[i] = 7
	}
	right(t, all)
	if n, _ := image.Size(all); n != 10+3+256+3 {
		t.Error("Size of one block again and again", n)
	}
	for i := 0; i < len(all); i += api.Block {
		binary.LittleEndian.PutUint16(all[i:], uint16(i/api.Block))
	}
	right(t, all)
	if n, _ := image.Size(all); n != len(all)+13 {
		t.Error("Size of blocks as they are", n)
	}
	refused(t, append(all, block('a')...))
	for i := 0; i < len(all); i += 2 * api.Block {
		clear(all[i : i+api.Block])
	}
	right(t, all)
	if n, _ := image.Size(all); n != 10+4096*3+2048*256 {
		t.Error("Size of rows of one block", n)
	}
	right(t, block('0'))
	right(t, block('a'))
	if n, _ := image.Size(block('a')); n != 256+3+10 {
		t.Error("Size of one block", n)
	}
}

// P32.1, P32.2: none, one block more than MaxBlocks, and what is no whole number of blocks.
func TestNoDisk(t *testing.T) {
	refused(t, nil)
	refused(t, []byte{})
	for _, n := range []int{1, 2, 128, 254, 255, 257, 511, 513, 4096*256 - 1, 4096*256 + 1, 4097*256 - 1, 4097 * 256, 4098 * 256, 8192 * 256} {
		refused(t, make([]byte, n))
	}
	for n := range 3 * api.Block {
		if n%api.Block != 0 {
			refused(t, make([]byte, n))
		} else if n > 0 {
			right(t, make([]byte, n))
		}
	}
}

// P32.1: rows that Rows would tell otherwise are no rows of a disk.
func TestNoRows(t *testing.T) {
	unmade(t, "none")
	unmade(t, "none", []image.Row{}...)
	unmade(t, "an empty row", image.Row{})
	unmade(t, "Zero behind Zero", zero(1), zero(1))
	unmade(t, "Raw behind Raw", raw("a"), raw("b"))
	unmade(t, "Same behind Same", raw("a"), same(1), same(1))
	unmade(t, "Same at the beginning", same(1))
	unmade(t, "Same at the beginning", same(2), raw("a"))
	unmade(t, "Same behind Zero", zero(1), same(1))
	unmade(t, "Same behind Zero", raw("a"), zero(2), same(1), raw("b"))
	unmade(t, "Raw with a block of 0", raw("0"))
	unmade(t, "Raw with a block of 0", raw("a0"))
	unmade(t, "Raw with a block of 0", raw("a0b"))
	unmade(t, "Raw with a block like the one ahead", raw("aa"))
	unmade(t, "Raw with a block like the one ahead", raw("abb"))
	unmade(t, "Raw with a block like the one ahead of the row", raw("a"), same(1), raw("a"))
	made(t, "aab", raw("a"), same(1), raw("b"))
	made(t, "0a0a", zero(1), raw("a"), zero(1), raw("a"))
}

// P32.1: counts and kinds that can not be, at the first row and at a later one.
func TestOddRows(t *testing.T) {
	data := map[string][]byte{"none": nil, "an empty one": {}, "one block": disk("b"), "too much": disk("bab"), "half a block": disk("b")[:128]}
	for _, ahead := range [][]image.Row{nil, {raw("a")}, {raw("a"), same(1)}, {raw("a"), zero(3)}} {
		for name, d := range data {
			for _, n := range append(odd, 0) {
				for kind := range 3 {
					unmade(t, "a count that can not be and "+name, append(slices.Clone(ahead), image.Row{Kind: kind, Count: n, Data: d})...)
				}
			}
			for _, kind := range append(odd, 3, 4, 255, 256, 257, 258) {
				for _, n := range []int{0, 1, 2, 4096} {
					unmade(t, "a kind that is none and "+name, append(slices.Clone(ahead), image.Row{Kind: kind, Count: n, Data: d})...)
				}
			}
		}
	}
}

// P32.1: Data too short, too long, or where there is none to be; empty Data is none.
func TestOddData(t *testing.T) {
	two := disk("ab")
	for n := range len(two) + 600 {
		d := append(slices.Clone(two), disk("ABC")...)[:n]
		row := image.Row{Kind: image.Raw, Count: 2, Data: d}
		if n == len(two) {
			made(t, "ab", row)
			continue
		}
		unmade(t, "Data of another length", row)
		unmade(t, "Data of another length", zero(1), row)
	}
	for _, d := range [][]byte{{0}, {1}, disk("0"), disk("a"), disk("aa")} {
		unmade(t, "Zero with Data", image.Row{Kind: image.Zero, Count: 1, Data: d})
		unmade(t, "Same with Data", raw("a"), image.Row{Kind: image.Same, Count: 1, Data: d})
		unmade(t, "Same with Data", raw("a"), image.Row{Kind: image.Same, Count: 2, Data: d})
	}
	made(t, "0", image.Row{Kind: image.Zero, Count: 1, Data: []byte{}})
	made(t, "aa", raw("a"), image.Row{Kind: image.Same, Count: 1, Data: []byte{}})
	unmade(t, "Raw without Data", image.Row{Kind: image.Raw, Count: 1})
	unmade(t, "Raw without Data", image.Row{Kind: image.Raw, Count: 1, Data: []byte{}})
}

// P32.1: MaxBlocks together, and one more.
func TestTooManyBlocks(t *testing.T) {
	for _, c := range [][]image.Row{
		{zero(4096)}, {raw("a"), same(4095)}, {zero(4095), raw("a")}, {zero(2000), raw("a"), zero(2095)}, {raw("ab"), same(2047), zero(2047)},
	} {
		if b, e := image.Blocks(c); e != api.OK || len(b) != 4096*256 || !equal(rows(b), c) {
			t.Error("Blocks of MaxBlocks", len(b), e)
		}
		for i := range c {
			d := slices.Clone(c)
			if d[i].Kind != image.Raw {
				d[i].Count++
				unmade(t, "one more", d...)
			}
		}
		last := zero(1)
		if c[len(c)-1].Kind == image.Zero {
			last = raw("c")
		}
		unmade(t, "one row more", append(slices.Clone(c), last)...)
	}
	many := make([]image.Row, 0, 5000)
	for i := range cap(many) {
		many = append(many, [...]image.Row{zero(1), raw("a")}[i%2])
	}
	unmade(t, "too many rows", many...)
	unmade(t, "rows with nothing", make([]image.Row, 100000)...)
	if b, e := image.Blocks(many[:4096]); e != api.OK || len(b) != 4096*256 {
		t.Error("Blocks of as many rows as blocks", len(b), e)
	}
}

// key is some rows as a text.
func key(l []image.Row) string {
	return string(written(0, l...))
}

// P32.1: all lists of up to three rows of kinds, counts and Data that go together or not: those that some disk has are its bytes, the others are refused.
func TestAllRows(t *testing.T) {
	disks := map[string]string{}
	letters("0ab", 6, func(names string) { disks[key(rows(disk(names)))] = names })
	var some []image.Row
	for kind := -1; kind <= 3; kind++ {
		for count := -1; count <= 2; count++ {
			for _, names := range []string{"", "0", "a", "b", "ab", "aa", "a0", "ba"} {
				some = append(some, image.Row{Kind: kind, Count: count, Data: disk(names)})
			}
		}
	}
	// Most are refused by themselves: of these one stands for all, ahead of others and behind.
	some = slices.DeleteFunc(some, func(r image.Row) bool {
		return len(r.Data) != 0 && (r.Kind != image.Raw || r.Count != len(r.Data)/api.Block) && r.Count != 1
	})
	often := 0
	hold := func(l ...image.Row) {
		names, there := disks[key(l)]
		if !there || slices.ContainsFunc(l, func(r image.Row) bool { return r.Kind < 0 || r.Count < 0 }) {
			unmade(t, "any rows", l...)
			return
		}
		often++
		made(t, names, l...)
	}
	for _, r := range some {
		hold(r)
		for _, s := range some {
			hold(r, s)
			for _, u := range some {
				hold(r, s, u)
			}
		}
	}
	if often < 50 {
		t.Error("few that were some disk's", often)
	}
}

// P32.2: each length from 0 to 14, whatever the bytes: fewer than 10 are too few ahead of all else.
func TestUnpackShort(t *testing.T) {
	whole := packed(disk("0"))
	for n := range 15 {
		for _, b := range [][]byte{append(slices.Clone(whole), 0)[:n], make([]byte, n), bytes.Repeat([]byte{0xff}, n), append([]byte("LIMG"), make([]byte, 10)...)[:n], append([]byte("LIMH"), make([]byte, 10)...)[:n]} {
			switch {
			case n < 10:
				opened(t, "few bytes", b, api.ErrShort)
			case string(b[:4]) != "LIMG":
				opened(t, "other bytes", b, api.ErrForm)
			case n == 13 && bytes.Equal(b, whole):
				if c, e := image.Unpack(b); e != api.OK || !bytes.Equal(c, disk("0")) {
					t.Error("Unpack", e)
				}
			default:
				opened(t, "a part", b, api.ErrSum)
			}
		}
	}
	opened(t, "nil", nil, api.ErrShort)
	for n := range 9 {
		opened(t, "nothing with its sum", sealed(written(n)), api.ErrForm)
		opened(t, "some bytes of a row with their sum", sealed(append(written(n), 0)), api.ErrForm)
		opened(t, "some bytes of a row with their sum", sealed(append(written(n), 0, 1)), api.ErrForm)
	}
}

// P32.2: other first bytes come ahead of a sum that is wrong, and of one that is right.
func TestUnpackMark(t *testing.T) {
	whole := packed(disk("0aa0"))
	for at := range 4 {
		for c := range 256 {
			p := slices.Clone(whole)
			if p[at] == byte(c) {
				continue
			}
			p[at] = byte(c)
			opened(t, "other first bytes", p, api.ErrForm)
			opened(t, "other first bytes and their sum", sealed(p[:len(p)-4]), api.ErrForm)
		}
	}
}

// P32.2: a sum that is wrong comes ahead of a form that is.
func TestUnpackSum(t *testing.T) {
	for _, p := range [][]byte{packed(disk("0")), packed(disk("ab0")), sealed(written(0)), sealed(written(7, zero(1), zero(2)))} {
		for at := len(p) - 4; at < len(p); at++ {
			q := slices.Clone(p)
			q[at]++
			opened(t, "another sum", q, api.ErrSum)
		}
		q := slices.Clone(p)
		binary.BigEndian.PutUint32(q[len(q)-4:], binary.LittleEndian.Uint32(p[len(p)-4:]))
		opened(t, "a sum the other way round", q, api.ErrSum)
		opened(t, "a sum of more", append(slices.Clone(p), 0), api.ErrSum)
		if len(p) > 10 {
			opened(t, "other first bytes, and a wrong sum", p[1:], api.ErrForm)
			opened(t, "a sum that was cut", p[:len(p)-1], api.ErrSum)
		}
	}
}

// P32.2: a right sum over what Pack would not write.
func TestUnpackForm(t *testing.T) {
	some := []image.Row{zero(2), raw("ab"), same(3), zero(1)}
	if b, e := image.Unpack(sealed(written(8, some...))); e != api.OK || !bytes.Equal(b, disk("00abbbb0")) {
		t.Error("Unpack", e)
	}
	for _, n := range []int{0, 1, 7, 9, 8 + 256, 4096, 4097, 65535} {
		opened(t, "another number of blocks", sealed(written(n, some...)), api.ErrForm)
	}
	for i := range some {
		opened(t, "rows that are too few", sealed(written(8, some[:i]...)), api.ErrForm)
	}
	opened(t, "rows too many", sealed(written(8, append(slices.Clone(some), raw("a"))...)), api.ErrForm)
	opened(t, "the same rows again", sealed(written(8, append(slices.Clone(some), some...)...)), api.ErrForm)
	for n := 1; n < 600; n++ {
		opened(t, "0 behind the last row", sealed(append(written(8, some...), make([]byte, n)...)), api.ErrForm)
		opened(t, "bytes behind the last row", sealed(append(written(8, some...), disk("abc")[:n]...)), api.ErrForm)
	}
	all := written(8, some...)
	for n := 6; n < len(all); n++ {
		opened(t, "a part", sealed(all[:n]), api.ErrForm)
	}
	for what, l := range map[string][]image.Row{
		"two of one kind":                   {zero(1), zero(1)},
		"a row of none":                     {zero(2), raw("")},
		"a row of none ahead":               {{Kind: image.Zero}, raw("ab")},
		"Same at the beginning":             {same(2)},
		"Same behind Zero":                  {zero(1), same(1)},
		"Raw with 0":                        {raw("a0")},
		"Raw with a block again":            {raw("aa")},
		"another kind":                      {{Kind: 3, Count: 2}},
		"a kind with bytes that are a row":  {raw("a"), {Kind: 255, Count: 1}},
		"Zero with bytes":                   {{Kind: image.Zero, Count: 2, Data: disk("0")}},
		"Raw without bytes":                 {{Kind: image.Raw, Count: 2}},
		"Raw with too few":                  {{Kind: image.Raw, Count: 2, Data: disk("ab")[:511]}},
		"Raw with many too few":             {{Kind: image.Raw, Count: 65535, Data: disk("ab")}},
		"more blocks than MaxBlocks in all": {zero(4095), raw("ab"), same(65535 - 4095 - 2)},
	} {
		opened(t, what, sealed(written(2, l...)), api.ErrForm)
		blocks := 0
		for _, r := range l {
			blocks += r.Count
		}
		opened(t, what, sealed(written(blocks, l...)), api.ErrForm)
	}
	opened(t, "one block more than MaxBlocks", sealed(written(4097, zero(4097))), api.ErrForm)
	opened(t, "one block more than MaxBlocks", sealed(written(4097, zero(4096), raw("a"))), api.ErrForm)
	opened(t, "the most blocks that can be written", sealed(written(65535, zero(65535))), api.ErrForm)
	opened(t, "empty rows", sealed(append(written(1), make([]byte, 3000000)...)), api.ErrForm)
}

// P32.5: each bit of a packed one that is turned is told.
func TestBits(t *testing.T) {
	for _, names := range []string{"0", "a", "00", "aa", "0aab0b", "abab", "AA0a"} {
		p, _ := image.Pack(disk(names))
		for i := range 8 * len(p) {
			q := slices.Clone(p)
			q[i/8] ^= 1 << (i % 8)
			want := api.ErrSum
			if i < 32 {
				want = api.ErrForm
			}
			opened(t, "a turned bit", q, want)
		}
	}
}

// Rules 4 and 5: what is handed in is neither changed nor kept, and what is answered is nobody else's.
func TestApart(t *testing.T) {
	b := disk("0abbc0d")
	whole := slices.Clone(b)
	l, _ := image.Rows(b)
	p, _ := image.Pack(b)
	clear(b)
	if !equal(l, rows(whole)) || !bytes.Equal(p, packed(whole)) {
		t.Error("the bytes handed in are kept")
	}
	c, _ := image.Blocks(l)
	u, _ := image.Unpack(p)
	if !equal(l, rows(whole)) || !bytes.Equal(p, packed(whole)) {
		t.Error("rows, or packed bytes, were changed")
	}
	for i := range l {
		_ = append(l[i].Data, 1, 2, 3)
	}
	_ = append(p, 1)
	if !equal(l, rows(whole)) {
		t.Error("rows share memory")
	}
	for i := range l {
		clear(l[i].Data)
		for j := range l {
			if j > i && !bytes.Equal(l[j].Data, rows(whole)[j].Data) {
				t.Error("rows share memory", i, j)
			}
		}
	}
	clear(p)
	if !bytes.Equal(c, whole) || !bytes.Equal(u, whole) {
		t.Error("what was handed in is kept")
	}
	clear(c)
	if !bytes.Equal(u, whole) {
		t.Error("answers share memory")
	}
	data := disk("ab")
	d, _ := image.Blocks([]image.Row{{Kind: image.Raw, Count: 2, Data: data}})
	clear(d)
	if !bytes.Equal(data, disk("ab")) {
		t.Error("Blocks answers a row's own bytes")
	}
}

// dice gives the same numbers below n in every run.
type dice uint32

func (d *dice) below(n int) int {
	*d ^= *d << 13
	*d ^= *d >> 17
	*d ^= *d << 5
	return int(uint32(*d) % uint32(n))
}

// names are those of some blocks, many of them as the one ahead.
func (d *dice) names(most int) string {
	l := []byte{"0ab"[d.below(3)]}
	for range d.below(most) {
		c := l[len(l)-1]
		if d.below(3) == 0 {
			c = "0abcABz"[d.below(7)]
		}
		l = append(l, c)
	}
	return string(l)
}

// spoiled is p with one part of it written over, taken out or put in twice: mostly what rows say, seldom their Data.
func (d *dice) spoiled(p []byte) []byte {
	at := 4 + d.below(min(9, len(p)-4))
	if d.below(2) == 0 {
		at = d.below(len(p))
	}
	n := min(len(p)-at, []int{1, 3, 256, 259}[d.below(4)])
	switch d.below(4) {
	case 0:
		return slices.Concat(p[:at], p[at+n:])
	case 1:
		return slices.Concat(p[:at+n], p[at:])
	case 2:
		return slices.Concat(p[:at], disk([...]string{"00", "aa", "b0"}[d.below(3)])[:n], p[at+n:])
	}
	q := slices.Clone(p)
	q[at] = byte(d.below(6))
	return q
}

// laid is the bytes that rows in p say, as well as they can be read; none, if they can not.
func laid(p []byte) []byte {
	var b []byte
	for p = p[6:]; len(p) >= 3 && p[0] < 3; {
		kind, n := p[0], int(binary.LittleEndian.Uint16(p[1:]))
		p = p[3:]
		if n > api.MaxBlocks-len(b)/api.Block || kind == image.Raw && len(p) < n*api.Block {
			return nil
		}
		if kind == image.Raw {
			b, p = append(b, p[:n*api.Block]...), p[n*api.Block:]
			continue
		}
		for range n {
			block := make([]byte, api.Block)
			if kind == image.Same && len(b) > 0 {
				block = slices.Clone(b[len(b)-api.Block:])
			}
			b = append(b, block...)
		}
	}
	return b
}

// P32.2, P32.3: any bytes with a right sum: just what Pack would write is opened.
func TestAnyPacked(t *testing.T) {
	r := dice(2463534242)
	good, bad := 0, 0
	for range 8000 {
		p := written(0)
		if names := r.names(9); r.below(20) > 0 {
			p = written(len(names), rows(disk(names))...)
		}
		for n := 1 + r.below(2); n > 0 && len(p) > 5; n-- {
			p = r.spoiled(p)
		}
		if len(p) < 6 || string(p[:4]) != "LIMG" {
			continue
		}
		whole, b := sealed(p), laid(p)
		if len(b) == 0 || !bytes.Equal(packed(b), whole) {
			bad++
			opened(t, "any bytes", whole, api.ErrForm)
			continue
		}
		good++
		if c, e := image.Unpack(whole); e != api.OK || !bytes.Equal(c, b) {
			t.Error("Unpack", e)
		}
	}
	if good < 1000 || bad < 1000 {
		t.Error("few of a kind", good, bad)
	}
}
