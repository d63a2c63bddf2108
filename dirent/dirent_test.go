package dirent_test

import (
	"bytes"
	"math"
	"slices"
	"strings"
	"testing"

	"levee/api"
	"levee/dirent"
)

// dice is a row of numbers that is the same each time.
type dice uint64

func (d *dice) next(n int) int {
	*d ^= *d << 13
	*d ^= *d >> 7
	*d ^= *d << 17
	return int(uint64(*d) >> 20 % uint64(n))
}

// longest is a name of 24 bytes.
const longest = "abcdefghijklmnopqrstuvwx"

// goodNames are names, of all kinds of bytes but 0 and /.
var goodNames = []string{
	"a", "ab", " ", "...", ".a", "a.", "..a", "....", "-", "\\", "\n", "\x01", "\x2e\x01", "\x2e\x2e\x20", "\x7f", "\x80", "\xff", "\xc0\xaf", "\xc0\x80", "\xe0\x80\xaf", "\xed\xa0\x80", "\xf4\x90\x80\x80", "ä", "\u2215", "\U0001f30a",
	longest, longest[:23], "\xff" + longest[1:], strings.Repeat("\xe2\x88\x95", 8), strings.Repeat("\xff", 24), strings.Repeat(".", 24),
}

// badNames are none: too short, too long, with a byte that may not be, and the two of dots.
var badNames = []string{
	"", ".", "..", "/", "\x00", "a/", "/a", "a/b", "a\x00", "\x00a", "a\x00b", "//", "./", "../", "\xff/", "/\xff", "\xe2\x88/", "\xe2/\x95", "\xe2\x00", "\xf0\x9f\x8c/", "\xc3\x00",
	longest + "y", strings.Repeat("\xe2\x88\x95", 9), longest[:23] + "ä", longest[:23] + "/", longest[:23] + "\x00", "/" + longest[1:],
	strings.Repeat("a", 255), strings.Repeat("a", 256), strings.Repeat("a", 257), strings.Repeat("a", 280), strings.Repeat(".", 25), strings.Repeat("/", 100000), strings.Repeat("a", 1<<20),
}

// goodSlots and badSlots are those that an entry can name, and such as none can.
var (
	goodSlots = []int{1, 2, 3, 255, 256, 257, 258, 511, 512, 1022, 1023}
	badSlots  = []int{1024, 1025, 65535, 65536, 65537, 1 << 32, 1<<32 + 1, math.MaxInt - 1, math.MaxInt, -1, -2, -1023, -65536, -65535, math.MinInt, math.MinInt + 1}
)

// name is Name by the words of the chapter, byte by byte.
func name(s string) bool {
	for i := 0; i < len(s); i++ {
		if s[i] == 0 || s[i] == 0x2f {
			return false
		}
	}
	return len(s) >= 1 && len(s) <= 24 && s != "." && s != ".."
}

// can tells by the words of the chapter whether an entry can be.
func can(e api.Entry) bool {
	if e.Slot == 0 {
		return !e.Leaving && len(e.Name) == 0
	}
	return e.Slot >= 1 && e.Slot <= 1023 && name(e.Name)
}

// laid is the bytes of an entry whose name has room, by the words of the chapter, of one that can not be too.
func laid(e api.Entry) []byte {
	b := make([]byte, 32)
	b[0], b[1] = byte(e.Slot), byte(e.Slot>>8)
	if e.Leaving {
		b[2] = 1
	}
	b[3] = byte(len(e.Name))
	copy(b[4:], e.Name)
	return b
}

// said is the entry that 32 bytes are of, by the words of the chapter, or false.
func said(b []byte) (api.Entry, bool) {
	if b[2] > 1 || b[3] > 24 {
		return api.Entry{}, false
	}
	e := api.Entry{Slot: int(b[0]) + 256*int(b[1]), Leaving: b[2] == 1, Name: string(b[4 : 4+b[3]])}
	if !can(e) || !bytes.Equal(laid(e), b) {
		return api.Entry{}, false
	}
	return e, true
}

// every calls f with entries: of all names and slots of the lists, with other ones among them.
func every(f func(api.Entry)) {
	names := slices.Concat(goodNames, badNames)
	slots := slices.Concat([]int{0}, goodSlots, badSlots)
	for _, n := range names {
		for _, slot := range slots {
			f(api.Entry{Slot: slot, Name: n})
			f(api.Entry{Slot: slot, Leaving: true, Name: n})
		}
	}
}

func TestExample(t *testing.T) {
	b, e := dirent.Put(api.Entry{Slot: 5, Name: "a"})
	if want := append([]byte{5, 0, 0, 1, 0x61}, make([]byte, 27)...); e != api.OK || !bytes.Equal(b, want) {
		t.Errorf("Put = %x, %d", b, e)
	}
}

// P8.1: names, and what is none.
func TestName(t *testing.T) {
	for _, s := range goodNames {
		if !dirent.Name(s) {
			t.Errorf("Name(%q) is false", s)
		}
	}
	for _, s := range badNames {
		if dirent.Name(s) {
			t.Errorf("Name(%.40q)", s)
		}
	}
}

// P8.1: every byte at every place of names of all lengths, with plain bytes and with parts of longer signs about it.
func TestNameByteByByte(t *testing.T) {
	for _, filler := range []string{"a", ".", "\xff", "\xe2", "\xf0", "\x88", "\xc3"} {
		for n := range 27 {
			text := []byte(strings.Repeat(filler, n))
			if s := string(text); dirent.Name(s) != name(s) {
				t.Errorf("Name(%q) is %v", s, !name(s))
			}
			for at := range text {
				was := text[at]
				for other := range 256 {
					text[at] = byte(other)
					if s := string(text); dirent.Name(s) != name(s) {
						t.Errorf("Name(%q) is %v", s, !name(s))
					}
				}
				text[at] = was
			}
		}
	}
}

// P8.1: Put; P8.3: Get of Put.
func TestPutGet(t *testing.T) {
	good := 0
	every(func(e api.Entry) {
		b, errno := dirent.Put(e)
		if !can(e) {
			if errno != api.ErrArg || len(b) != 0 {
				t.Fatalf("Put(%.60v) = %x, %d", e, b, errno)
			}
			return
		}
		good++
		if errno != api.OK || !bytes.Equal(b, laid(e)) {
			t.Fatalf("Put(%v) = %x, %d", e, b, errno)
		}
		back, errno := dirent.Get(b)
		if errno != api.OK || back != e {
			t.Fatalf("Get of Put(%v) = %v, %d", e, back, errno)
		}
		again, _ := dirent.Put(e)
		clear(b)
		if back != e || !bytes.Equal(again, laid(e)) {
			t.Fatal("an answer shares memory")
		}
	})
	if want := 2 * len(goodNames) * len(goodSlots); good != want+1 {
		t.Error(good, "entries can be, not", want, "and the one that is none")
	}
}

// P8.1: an entry of the slot 0 is none, and all else of it is nought.
func TestNoEntry(t *testing.T) {
	if b, errno := dirent.Put(api.Entry{}); errno != api.OK || !bytes.Equal(b, make([]byte, 32)) {
		t.Errorf("Put of none: %x, %d", b, errno)
	}
	if e, errno := dirent.Get(make([]byte, 32)); errno != api.OK || e != (api.Entry{}) {
		t.Errorf("Get of none: %v, %d", e, errno)
	}
	for _, e := range []api.Entry{{Leaving: true}, {Name: "a"}, {Leaving: true, Name: "a"}, {Name: "."}} {
		if b, errno := dirent.Put(e); errno != api.ErrArg || len(b) != 0 {
			t.Errorf("Put(%v) = %x, %d", e, b, errno)
		}
		if got, errno := dirent.Get(laid(e)); errno != api.ErrForm || got != (api.Entry{}) {
			t.Errorf("Get(%x) = %v, %d", laid(e), got, errno)
		}
	}
}

// held holds Get of 32 bytes against the words of the chapter.
func held(t *testing.T, b []byte) {
	t.Helper()
	want, ok := said(b)
	errno := api.ErrForm
	if ok {
		errno = api.OK
	}
	kept := bytes.Clone(b)
	if got, e := dirent.Get(b); e != errno || got != want {
		t.Fatalf("Get(%x) = %v, %d", b, got, e)
	}
	if !bytes.Equal(b, kept) {
		t.Fatal("Get changed its bytes")
	}
}

// P8.1: every byte of an entry's bytes made each other one: some make another entry, which is told, all else is refused.
func TestGetTurned(t *testing.T) {
	for _, e := range []api.Entry{{}, {Slot: 1, Name: "a"}, {Slot: 5, Name: ".a"}, {Slot: 258, Leaving: true, Name: "xyz"}, {Slot: 1023, Name: longest}, {Slot: 3, Leaving: true, Name: longest[:23]}, {Slot: 4, Name: "..."}} {
		b := laid(e)
		for at := range b {
			was := b[at]
			for other := range 256 {
				b[at] = byte(other)
				held(t, b)
			}
			b[at] = was
		}
	}
}

// P8.1: bytes that hold together, of entries that can not be, and lengths of names that are beyond the bytes.
func TestGetBroken(t *testing.T) {
	every(func(e api.Entry) {
		if len(e.Name) <= 28 {
			held(t, laid(e))
		}
	})
	for n := range 256 {
		for _, fill := range []byte{0, 'a', 255} {
			b := bytes.Repeat([]byte{fill}, 32)
			b[0], b[1], b[2], b[3] = 5, 0, 0, byte(n)
			held(t, b)
			for at := 4 + min(n, 28); at < 32; at++ {
				b[at] = 0
			}
			held(t, b)
		}
	}
	for leaving := range 256 {
		b := laid(api.Entry{Slot: 5, Name: "a"})
		b[2] = byte(leaving)
		held(t, b)
	}
}

// P8.1: bytes of other lengths, ahead of what they say.
func TestGetSize(t *testing.T) {
	good := laid(api.Entry{Slot: 5, Name: "a"})
	for _, b := range [][]byte{nil, {}, {5}, good[:4], good[:5], good[:31], append(bytes.Clone(good), 0), make([]byte, 33), make([]byte, 64), make([]byte, 256), bytes.Repeat([]byte{255}, 31)} {
		if e, errno := dirent.Get(b); errno != api.ErrSize || e != (api.Entry{}) {
			t.Errorf("Get of %d bytes: %v, %d", len(b), e, errno)
		}
	}
}

// full is a block with an entry at each place.
func full() ([]byte, []api.Entry) {
	var b []byte
	var all []api.Entry
	for place := range 8 {
		e := api.Entry{Slot: 100*place + 1, Leaving: place%2 == 1, Name: longest[place : 3*place+1]}
		b = append(b, laid(e)...)
		all = append(all, e)
	}
	return b, all
}

// places are such as no block has.
var places = []int{-1, -2, -8, math.MinInt, math.MinInt + 1, 8, 9, 32, 1 << 59, 1 << 62, math.MaxInt - 1, math.MaxInt}

// sizes are bytes that are no block.
func sizes() [][]byte {
	b, _ := full()
	return [][]byte{nil, {}, {5}, b[:32], b[:255], append(bytes.Clone(b), 0), make([]byte, 32), make([]byte, 255), make([]byte, 257), make([]byte, 512)}
}

// P8.2: the entry at each place; what is broken elsewhere does not matter.
func TestRead(t *testing.T) {
	b, all := full()
	for hurt := -1; hurt < 8; hurt++ {
		x := bytes.Clone(b)
		if hurt >= 0 {
			x[32*hurt+31] = 1
		}
		for place := range 8 {
			want, errno := all[place], api.OK
			if place == hurt {
				want, errno = api.Entry{}, api.ErrForm
			}
			if e, got := dirent.Read(x, place); got != errno || e != want {
				t.Errorf("Read at %d, %d broken: %v, %d", place, hurt, e, got)
			}
		}
	}
	if e, errno := dirent.Read(make([]byte, 256), 7); errno != api.OK || e != (api.Entry{}) {
		t.Errorf("Read of no entry: %v, %d", e, errno)
	}
}

// P8.2: the length's error comes ahead of the place's, that ahead of the bytes'.
func TestReadRefused(t *testing.T) {
	good, _ := full()
	broken := bytes.Repeat([]byte{255}, 256)
	for _, place := range append([]int{0, 1, 7}, places...) {
		for _, b := range sizes() {
			if e, errno := dirent.Read(b, place); errno != api.ErrSize || e != (api.Entry{}) {
				t.Errorf("Read of %d bytes at %d: %v, %d", len(b), place, e, errno)
			}
		}
	}
	for _, place := range places {
		for _, b := range [][]byte{good, broken} {
			if e, errno := dirent.Read(b, place); errno != api.ErrRange || e != (api.Entry{}) {
				t.Errorf("Read at %d: %v, %d", place, e, errno)
			}
		}
	}
	for place := range 8 {
		if e, errno := dirent.Read(broken, place); errno != api.ErrForm || e != (api.Entry{}) {
			t.Errorf("Read of bytes 255 at %d: %v, %d", place, e, errno)
		}
	}
}

// P8.2, P8.3: what is laid at each place is read there, and the others stay, broken ones too; in new memory.
func TestLay(t *testing.T) {
	b, _ := full()
	for _, from := range [][]byte{make([]byte, 256), b, bytes.Repeat([]byte{0xa5}, 256)} {
		for place := range 8 {
			for _, e := range []api.Entry{{}, {Slot: 1023, Name: longest}, {Slot: 7, Leaving: true, Name: "\xff"}} {
				kept := bytes.Clone(from)
				got, errno := dirent.Lay(from, place, e)
				want := bytes.Clone(from)
				copy(want[32*place:], laid(e))
				if errno != api.OK || !bytes.Equal(got, want) {
					t.Fatalf("Lay of %v at %d: %x, %d", e, place, got, errno)
				}
				if back, errno := dirent.Read(got, place); errno != api.OK || back != e {
					t.Fatalf("Read of Lay of %v at %d: %v, %d", e, place, back, errno)
				}
				clear(got)
				if !bytes.Equal(from, kept) {
					t.Fatal("Lay changed or shares its bytes")
				}
			}
		}
	}
}

// P8.2: the length's error, the place's, the entry's, in this order; and nothing is changed.
func TestLayRefused(t *testing.T) {
	b, _ := full()
	kept := bytes.Clone(b)
	for _, e := range []api.Entry{{}, {Slot: 5, Name: "a"}, {Slot: 1024, Name: "a"}} {
		for _, place := range append([]int{0, 1, 7}, places...) {
			for _, x := range sizes() {
				if got, errno := dirent.Lay(x, place, e); errno != api.ErrSize || len(got) != 0 {
					t.Errorf("Lay on %d bytes at %d: %x, %d", len(x), place, got, errno)
				}
			}
		}
		for _, place := range places {
			if got, errno := dirent.Lay(b, place, e); errno != api.ErrRange || len(got) != 0 {
				t.Errorf("Lay at %d: %x, %d", place, got, errno)
			}
		}
	}
	every(func(e api.Entry) {
		if can(e) {
			return
		}
		if got, errno := dirent.Lay(b, len(e.Name)%8, e); errno != api.ErrArg || len(got) != 0 {
			t.Fatalf("Lay of %.60v: %x, %d", e, got, errno)
		}
	})
	if !bytes.Equal(b, kept) {
		t.Error("a refused Lay changed its bytes")
	}
}

// P8.2: of bytes that are no block nothing is listed or found, and there is no room.
func TestNoBlock(t *testing.T) {
	for _, b := range sizes() {
		if all, at, errno := dirent.List(b); errno != api.ErrSize || len(all) != 0 || len(at) != 0 {
			t.Errorf("List of %d bytes: %v, %v, %d", len(b), all, at, errno)
		}
		for _, n := range append([]string{""}, longest[:1], "a") {
			if at := dirent.Find(b, n); at != -1 {
				t.Errorf("Find of %d bytes: %d", len(b), at)
			}
		}
		if at := dirent.Room(b); at != -1 {
			t.Errorf("Room of %d bytes: %d", len(b), at)
		}
	}
}

// walked holds List, Find and Room of a block against the words of the chapter, for its names and those handed in.
func walked(t *testing.T, b []byte, names ...string) {
	t.Helper()
	var all []api.Entry
	var at []int
	room := -1
	for place := range 8 {
		part := b[32*place : 32*place+32]
		if e, ok := said(part); ok && e.Slot != 0 {
			all, at = append(all, e), append(at, place)
			names = append(names, e.Name)
		}
		if room < 0 && bytes.Equal(part, make([]byte, 32)) {
			room = place
		}
	}
	kept := bytes.Clone(b)
	gotAll, gotAt, errno := dirent.List(b)
	if errno != api.OK || !slices.Equal(gotAll, all) || !slices.Equal(gotAt, at) {
		t.Fatalf("List(%x) = %v, %v, %d", b, gotAll, gotAt, errno)
	}
	for _, n := range names {
		want := -1
		if i := slices.IndexFunc(all, func(e api.Entry) bool { return e.Name == n }); i >= 0 {
			want = at[i]
		}
		if got := dirent.Find(b, n); got != want {
			t.Fatalf("Find(%x, %.40q) = %d, not %d", b, n, got, want)
		}
	}
	if got := dirent.Room(b); got != room {
		t.Fatalf("Room(%x) = %d, not %d", b, got, room)
	}
	if !bytes.Equal(b, kept) {
		t.Fatal("a block was changed")
	}
}

// P8.2: blocks of entries, of none, and of bytes that are refused, in all orders of these at eight places.
func TestWalk(t *testing.T) {
	broken := laid(api.Entry{Slot: 9, Name: "b"})
	broken[31] = 1
	parts := [][]byte{make([]byte, 32), laid(api.Entry{Slot: 5, Name: "a"}), laid(api.Entry{Slot: 6, Leaving: true, Name: "b"}), broken}
	for row := range 1 << 16 {
		var b []byte
		for place := range 8 {
			b = append(b, parts[row>>(2*place)&3]...)
		}
		walked(t, b, "", "a", "b", "c")
	}
}

// P8.2: blocks with bytes turned by chance.
func TestWalkTurned(t *testing.T) {
	d := dice(17)
	for range 20000 {
		b := make([]byte, 256)
		for place := range 8 {
			if d.next(3) > 0 {
				copy(b[32*place:], laid(api.Entry{Slot: 1 + d.next(1023), Leaving: d.next(2) == 0, Name: goodNames[d.next(len(goodNames))]}))
			}
		}
		for range d.next(6) {
			b[d.next(256)] = byte(d.next(256))
		}
		walked(t, b, append(badNames[:21:21], "a", longest)...)
	}
	for fill := range 256 {
		walked(t, bytes.Repeat([]byte{byte(fill)}, 256), "", "a")
	}
}

// P8.2: a place with a byte that is not 0 has no room, though there is no entry.
func TestRoomByteByByte(t *testing.T) {
	for at := range 32 {
		b := make([]byte, 256)
		b[at] = 1
		if got := dirent.Room(b); got != 1 {
			t.Errorf("Room with byte %d: %d", at, got)
		}
	}
	b, _ := full()
	if got := dirent.Room(b); got != -1 {
		t.Error("Room of a full block", got)
	}
	for place := range 8 {
		b, _ := full()
		clear(b[32*place : 32*place+32])
		if got := dirent.Room(b); got != place {
			t.Errorf("Room at %d: %d", place, got)
		}
	}
}

// P8.2: what a caller writes into a list is seen by no later one, nor in the block; nor is the block's later change in a list.
func TestListMemory(t *testing.T) {
	b, want := full()
	all, at, _ := dirent.List(b)
	other, places, _ := dirent.List(b)
	clear(b)
	if !slices.Equal(all, want) {
		t.Error("a list shares the block's memory")
	}
	clear(all)
	clear(at)
	if !slices.Equal(other, want) || !slices.Equal(places, []int{0, 1, 2, 3, 4, 5, 6, 7}) {
		t.Error("two lists share memory")
	}
}

// P8.3: what is laid is found where it was laid, if its name stands nowhere ahead; else where it stands.
func TestLaidIsFound(t *testing.T) {
	for ahead := range 8 {
		for place := range 8 {
			b, _ := full()
			b, _ = dirent.Lay(b, ahead, api.Entry{Slot: 11, Name: "name"})
			b, errno := dirent.Lay(b, place, api.Entry{Slot: 12, Leaving: true, Name: "name"})
			if got := dirent.Find(b, "name"); errno != api.OK || got != min(ahead, place) {
				t.Errorf("laid at %d and %d: found at %d, %d", ahead, place, got, errno)
			}
			b, _ = dirent.Lay(b, min(ahead, place), api.Entry{})
			want := max(ahead, place)
			if ahead == place {
				want = -1
			}
			if got := dirent.Find(b, "name"); got != want {
				t.Errorf("laid at %d and %d, the first taken away: found at %d", ahead, place, got)
			}
			if got := dirent.Room(b); got != min(ahead, place) {
				t.Errorf("Room where one was taken away: %d", got)
			}
		}
	}
}
