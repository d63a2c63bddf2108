package patch_test

import (
	"bytes"
	"slices"
	"testing"

	"levee/api"
	"levee/disk"
	"levee/patch"
)

// dice gives the same numbers below n in every run.
type dice uint32

func (d *dice) below(n int) int {
	*d ^= *d << 13
	*d ^= *d >> 17
	*d ^= *d << 5
	return int(uint32(*d) % uint32(n))
}

// one is a change; its number is its place in the list of all, and one.
type one struct {
	b, from       int
	data          []byte
	after         []int64
	written, safe bool
}

// model is the chapter's words as a list of all changes that ever were.
type model struct {
	most   int
	first  [][]byte    // the blocks ahead of all changes
	all    []one       // by numbers
	stands [][][]int64 // of each block, the changes that are on the disk: safely, then by each write since
}

func newModel(d *disk.Disk, most int) *model {
	m := &model{most: most, stands: make([][][]int64, d.Len())}
	for b := range d.Len() {
		now, _ := d.Read(b)
		m.first = append(m.first, now)
		m.stands[b] = [][]int64{nil}
	}
	return m
}

func (m *model) at(id int64) *one { return &m.all[id-1] }

func (m *model) known(id int64) bool { return id >= 1 && id <= int64(len(m.all)) }

func (m *model) open(id int64) bool { return m.known(id) && !m.at(id).safe }

// of lists the changes of block b that fit, in order.
func (m *model) of(b int, fits func(id int64) bool) []int64 {
	var ids []int64
	for i := range m.all {
		if id := int64(i + 1); m.all[i].b == b && fits(id) {
			ids = append(ids, id)
		}
	}
	return ids
}

// with is block b as it was ahead of all, and some changes upon it.
func (m *model) with(b int, ids []int64) []byte {
	now := slices.Clone(m.first[b])
	for _, id := range ids {
		copy(now[m.at(id).from:], m.at(id).data)
	}
	return now
}

// meet is held byte by byte.
func (m *model) meet(x, y int64) bool {
	a, b := m.at(x), m.at(y)
	for i := range a.data {
		for j := range b.data {
			if a.b == b.b && a.from+i == b.from+j {
				return true
			}
		}
	}
	return false
}

// met lists the open ones ahead of one that it meets.
func (m *model) met(id int64) []int64 {
	return m.of(m.at(id).b, func(x int64) bool { return x < id && m.open(x) && m.meet(x, id) })
}

// may is the chapter's 'may be written', asked anew down to its ground.
func (m *model) may(id int64) bool {
	for _, x := range m.at(id).after {
		if m.open(x) && (m.at(x).b != m.at(id).b || !m.may(x)) {
			return false
		}
	}
	for _, x := range m.met(id) {
		if !m.may(x) {
			return false
		}
	}
	return true
}

func (m *model) image(b int) []int64 {
	return m.of(b, func(id int64) bool { return !m.open(id) || m.may(id) })
}

func (m *model) dirty() []int {
	var dirty []int
	for b := range m.first {
		if len(m.of(b, m.open)) > 0 {
			dirty = append(dirty, b)
		}
	}
	return dirty
}

// comes tells why block b can not be read.
func (m *model) comes(b int) api.Errno {
	if b < 0 || b >= len(m.first) {
		return api.ErrRange
	}
	if in := m.dirty(); len(in) >= m.most && !slices.Contains(in, b) {
		return api.ErrFull
	}
	return api.OK
}

func (m *model) patch(b, from int, data []byte, after []int64) (int64, api.Errno) {
	if b < 0 || b >= len(m.first) {
		return 0, api.ErrRange
	}
	if len(data) == 0 || from < 0 || from > 256 || from+len(data) > 256 {
		return 0, api.ErrSize
	}
	if slices.ContainsFunc(after, func(id int64) bool { return !m.known(id) }) {
		return 0, api.ErrArg
	}
	if e := m.comes(b); e != api.OK {
		return 0, e
	}
	m.all = append(m.all, one{b: b, from: from, data: slices.Clone(data), after: slices.Clone(after)})
	return int64(len(m.all)), api.OK
}

func (m *model) write(b int, takesPlace bool) api.Errno {
	if b < 0 || b >= len(m.first) {
		return api.ErrRange
	}
	if len(m.of(b, m.open)) == 0 {
		return api.ErrNone
	}
	image := m.image(b)
	for _, id := range image {
		m.at(id).written = true
	}
	if takesPlace {
		m.stands[b] = append(m.stands[b], image)
	}
	return api.OK
}

func (m *model) flush(takesPlace bool) {
	for i := range m.all {
		m.all[i].safe = m.all[i].safe || m.all[i].written
	}
	for b, s := range m.stands {
		if takesPlace {
			m.stands[b] = s[len(s)-1:]
		}
	}
}

func (m *model) waits(id int64) []int64 {
	if !m.open(id) {
		return nil
	}
	all := []int64{id}
	for i := 0; i < len(all); i++ {
		for _, x := range append(m.met(all[i]), m.at(all[i]).after...) {
			if m.open(x) && !slices.Contains(all, x) {
				all = append(all, x)
			}
		}
	}
	slices.Sort(all)
	return all
}

// same holds all that can be asked of a store against the model.
func (m *model) same(t *testing.T, s *patch.Store) {
	t.Helper()
	left := 0
	for id := int64(-1); id <= int64(len(m.all))+1; id++ {
		if m.open(id) {
			left++
		}
		if s.Safe(id) != (m.known(id) && m.at(id).safe) {
			t.Errorf("Safe(%d): %v", id, s.Safe(id))
		}
		waits(t, s, id, m.waits(id)...)
		b, e := s.Block(id)
		if m.open(id) && (b != m.at(id).b || e != api.OK) || !m.open(id) && (b != 0 || e != api.ErrNone) {
			t.Errorf("Block(%d): %d, %d", id, b, e)
		}
	}
	if s.Open() != left {
		t.Errorf("Open: %d, not %d", s.Open(), left)
	}
	dirty(t, s, m.dirty()...)
	for b := -1; b <= len(m.first); b++ {
		ready(t, s, b, len(m.of(b, func(id int64) bool { return m.open(id) && m.may(id) && !m.at(id).written })))
		want := m.comes(b)
		now, e := s.Read(b)
		image, f := s.Image(b)
		if e != want || f != want {
			t.Errorf("Read(%d), Image: %d, %d, not %d", b, e, f, want)
		} else if want == api.OK && (!bytes.Equal(now, m.with(b, m.of(b, m.known))) || !bytes.Equal(image, m.with(b, m.image(b)))) {
			t.Errorf("Read(%d), Image: %x, %x", b, now, image)
		}
	}
}

// crashes is P11.4 and P11.6: whatever a crash takes, each block is its first bytes and some changes, that are there with all that they wait for, those that were flushed always.
func (m *model) crashes(t *testing.T, r *dice, d *disk.Disk) {
	t.Helper()
	for range 4 {
		c := d.Copy()
		var pick []int
		for _, b := range c.Open() {
			pick = append(pick, r.below(c.Writes(b)+1))
		}
		c.Crash(pick)
		var there []int64
		for b, s := range m.stands {
			kept := s[0]
			if len(s) > 1 {
				kept, pick = s[pick[0]], pick[1:]
			}
			if now, _ := c.Read(b); !bytes.Equal(now, m.with(b, kept)) {
				t.Errorf("behind a crash block %d is not %v: %x", b, kept, now)
			}
			if slices.ContainsFunc(s[0], func(id int64) bool { return !slices.Contains(kept, id) }) {
				t.Errorf("behind a crash block %d has %v, and %v were safe", b, kept, s[0])
			}
			there = append(there, kept...)
		}
		for _, id := range there {
			for _, x := range m.at(id).after {
				if !slices.Contains(there, x) {
					t.Errorf("behind a crash %d is there, and %d, that it waits for, is not", id, x)
				}
			}
		}
	}
}

// someChange is one that can be, more often than not, and often meets others.
func someChange(r *dice, m *model) (b, from int, data []byte, after []int64) {
	b, from = r.below(len(m.first)), r.below(12)
	data = make([]byte, 1+r.below(5))
	if r.below(20) == 0 {
		b = r.below(2)*(len(m.first)+1) - 1
	}
	if r.below(20) == 0 {
		from, data = []int{-1, 0, 250, 255, 256}[r.below(5)], make([]byte, []int{0, 1, 6, 7, 256, 257}[r.below(6)])
	}
	for i := range data {
		data[i] = byte(r.below(256))
	}
	for range r.below(4) {
		after = append(after, int64(1+r.below(max(1, len(m.all)))))
	}
	if r.below(20) == 0 {
		after = append(after, int64(r.below(2)*(len(m.all)+1)))
	}
	return b, from, data, after
}

// P11.1 to P11.6: any calls, one behind the other, with the power going and not; at last all is made safe, in no more rounds than there are open changes.
func TestAnyCalls(t *testing.T) {
	r := dice(2463534242)
	for run := range 500 {
		size := 1 + r.below(5)
		most := 1 + r.below(size)
		stops := run%3 == 0
		if stops {
			most = size // what a stopped disk lost stays in memory
		}
		d := filled(t, size)
		s, _ := patch.Open(d, most)
		m := newModel(d, most)
		for range 40 {
			switch k := r.below(20); {
			case k < 11:
				b, from, data, after := someChange(&r, m)
				id, e := s.Patch(b, from, data, after...)
				want, f := m.patch(b, from, data, after)
				if id != want || e != f {
					t.Errorf("Patch(%d, %d, %x, %v): %d, %d, not %d, %d", b, from, data, after, id, e, want, f)
				}
			case k < 17:
				b, goes := r.below(size+2)-1, !d.Stopped()
				answers(t, "Write", s.Write(b), m.write(b, goes))
			case k < 19:
				m.flush(!d.Stopped())
				answers(t, "Flush", s.Flush(), api.OK)
			case stops && !d.Stopped(): // who stopped comes on again by a crash alone
				d.Stop(r.below(8))
			}
			m.same(t, s)
			m.crashes(t, &r, d)
			if t.Failed() {
				t.Fatalf("run %d", run)
			}
		}
		allSafe(t, s, m, d)
		if t.Failed() {
			t.Fatalf("run %d", run)
		}
	}
}

// allSafe is P11.5: the least open change may be written, and as many rounds as there are open ones are enough.
func allSafe(t *testing.T, s *patch.Store, m *model, d *disk.Disk) {
	t.Helper()
	for range s.Open() {
		for id := range int64(len(m.all)) {
			if m.open(id + 1) {
				if !m.may(id+1) || len(s.Waits(id+1)) != 1 {
					t.Errorf("%d is the least open one, and may not be written", id+1)
				}
				break
			}
		}
		for _, b := range s.Dirty() {
			goes := !d.Stopped()
			answers(t, "Write", s.Write(b), m.write(b, goes))
		}
		m.flush(!d.Stopped())
		answers(t, "Flush", s.Flush(), api.OK)
	}
	open(t, s, int64(len(m.all)))
	m.same(t, s)
	for b := range d.Len() {
		now, _ := s.Read(b)
		if safe, _ := d.Safe(b); !bytes.Equal(now, safe) && !d.Stopped() {
			t.Errorf("block %d is safely %x, and is read as %x", b, safe, now)
		}
	}
}

// P11.4: the document's example, stopped at each point, with each crash there.
func TestEachCrash(t *testing.T) {
	texts := map[string]int{"\x00\x00\x00": 0, "a\x00\x00": 1, "a\x00b": 2, "acb": 3}
	most := 0
	for stop := range 12 {
		for keep := range 27 {
			s, d := fresh(t, 8)
			d.Stop(stop)
			patched(t, s, 5, 0, "a")
			patched(t, s, 6, 0, "b", 1)
			patched(t, s, 5, 1, "c", 2)
			for range 3 {
				s.Write(6)
				s.Write(5)
				s.Write(6)
				s.Flush()
			}
			d.Crash([]int{keep % 3, keep / 3 % 3, keep / 9})
			five, _ := d.Read(5)
			six, _ := d.Read(6)
			n, can := texts[string([]byte{five[0], five[1], six[0]})]
			if !can {
				t.Fatalf("Stop(%d): %q, %q", stop, five[:2], six[:1])
			}
			if safe := stop / 4; n < safe || n > safe+1 {
				t.Errorf("Stop(%d): %d changes are there", stop, n)
			}
			most = max(most, n)
		}
	}
	if most != 3 {
		t.Error("at most there were", most)
	}
}
