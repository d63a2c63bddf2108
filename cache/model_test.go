package cache_test

import (
	"bytes"
	"slices"
	"testing"

	"levee/api"
	"levee/cache"
	"levee/disk"
)

// dice gives the same numbers below n in every run.
type dice uint32

func (d *dice) below(n int) int {
	*d ^= *d << 13
	*d ^= *d >> 17
	*d ^= *d << 5
	return int(uint32(*d) % uint32(n))
}

// line is a block in memory.
type line struct {
	b, pins int
	data    []byte
}

// model is the chapter's words as a list of what is in memory, the oldest first, on a disk of its own.
type model struct {
	twin *disk.Disk
	most int
	in   []line
}

func (m *model) at(b int) int {
	return slices.IndexFunc(m.in, func(l line) bool { return l.b == b })
}

func (m *model) dirty(l line) bool {
	now, _ := m.twin.Read(l.b)
	return !bytes.Equal(now, l.data)
}

// ask puts block b at the end of the list, or tells why it can not.
func (m *model) ask(b int) (*line, api.Errno) {
	data, e := m.twin.Read(b)
	if e != api.OK {
		return nil, e
	}
	next := line{b: b, data: data}
	gone := m.at(b)
	if gone >= 0 {
		next = m.in[gone]
	} else if len(m.in) == m.most {
		gone = slices.IndexFunc(m.in, func(l line) bool { return l.pins == 0 && !m.dirty(l) })
		if gone < 0 {
			return nil, api.ErrFull
		}
	}
	var others []line
	for i, l := range m.in {
		if i != gone {
			others = append(others, l)
		}
	}
	m.in = append(others, next)
	return &m.in[len(m.in)-1], api.OK
}

func (m *model) read(b int) ([]byte, api.Errno) {
	l, e := m.ask(b)
	if e != api.OK {
		return nil, e
	}
	return l.data, api.OK
}

func (m *model) lay(b int, data []byte) api.Errno {
	if b < 0 || b >= m.twin.Len() {
		return api.ErrRange
	}
	if len(data) != 256 {
		return api.ErrSize
	}
	l, e := m.ask(b)
	if e == api.OK {
		l.data = data
	}
	return e
}

func (m *model) write(b int, image []byte) api.Errno {
	if b < 0 || b >= m.twin.Len() {
		return api.ErrRange
	}
	if len(image) != 256 && len(image) != 0 {
		return api.ErrSize
	}
	l, e := m.ask(b)
	if e != api.OK {
		return e
	}
	if len(image) == 0 {
		image = l.data
	}
	return m.twin.Write(b, image)
}

func (m *model) pin(b int) api.Errno {
	at := m.at(b)
	if at < 0 {
		return api.ErrNone
	}
	m.in[at].pins++
	return api.OK
}

func (m *model) unpin(b int) api.Errno {
	at := m.at(b)
	if at < 0 {
		return api.ErrNone
	}
	if m.in[at].pins == 0 {
		return api.ErrState
	}
	m.in[at].pins--
	return api.OK
}

func (m *model) drop(b int) api.Errno {
	at := m.at(b)
	if at < 0 {
		return api.ErrNone
	}
	if m.in[at].pins > 0 {
		return api.ErrBusy
	}
	m.in = slices.Delete(slices.Clone(m.in), at, at+1)
	return api.OK
}

// same holds all that can be asked of a cache and its disk, without asking for a block, against the model.
func (m *model) same(t *testing.T, c *cache.Cache, d *disk.Disk) {
	t.Helper()
	var in, other []int
	for _, l := range m.in {
		in = append(in, l.b)
		if m.dirty(l) {
			other = append(other, l.b)
		}
	}
	slices.Sort(other)
	held(t, c, in...)
	dirty(t, c, other...)
	if n := len(c.Held()); n > m.most {
		t.Errorf("%d blocks in memory, not at most %d", n, m.most)
	}
	if !bytes.Equal(d.Bytes(), m.twin.Bytes()) {
		t.Error("other bytes on the disk")
	}
	for b := range d.Len() {
		got, _ := d.Safe(b)
		want, _ := m.twin.Safe(b)
		if d.Writes(b) != m.twin.Writes(b) || !bytes.Equal(got, want) {
			t.Errorf("block %d of the disk: %d writes, not %d, or other safe bytes", b, d.Writes(b), m.twin.Writes(b))
		}
	}
}

// stays is P10.4 by itself: who was pinned or dirty is in memory, unless the call dropped it.
func (m *model) stays(t *testing.T, c *cache.Cache, before []line, dropped int) {
	t.Helper()
	for _, l := range before {
		if (l.pins > 0 || m.dirty(l)) && l.b != dropped && !slices.Contains(c.Held(), l.b) {
			t.Errorf("block %d, pinned %d times, went by itself", l.b, l.pins)
		}
	}
}

// someBytes are a block's more often than not; few are other ones, so that they are met again.
func someBytes(r *dice) []byte {
	switch r.below(8) {
	case 0:
		return nil
	case 1:
		return make([]byte, []int{0, 1, 255, 257}[r.below(4)])
	}
	return fill(byte(r.below(3)))
}

// beside is what happens to both disks without the caches.
func beside(r *dice, d, twin *disk.Disk) {
	switch r.below(4) {
	case 0:
		b, data := r.below(d.Len()), fill(byte(r.below(3)))
		d.Write(b, data)
		twin.Write(b, data)
	case 1:
		n := r.below(5)
		d.Stop(n)
		twin.Stop(n)
	default:
		pick := []int{r.below(3), r.below(3), r.below(3)}
		d.Crash(pick)
		twin.Crash(pick)
	}
}

// P10.1 to P10.5: any calls, one behind the other, with the disk alone and not.
func TestAnyCalls(t *testing.T) {
	r := dice(2463534242)
	for run := range 1000 {
		size, most := 1+r.below(6), 1+r.below(4)
		d := filled(t, size)
		c, _ := cache.New(d, most)
		m := &model{twin: d.Copy(), most: most}
		for range 80 {
			b, before, dropped := r.below(size+2)-1, slices.Clone(m.in), -1
			switch k := r.below(22); {
			case k < 6:
				got, e := c.Read(b)
				want, f := m.read(b)
				if e != f || !bytes.Equal(got, want) {
					t.Errorf("Read(%d): %x, %d, not %x, %d", b, got, e, want, f)
				}
			case k < 10:
				data := someBytes(&r)
				answers(t, "Lay", c.Lay(b, data), m.lay(b, data))
			case k < 14:
				image := someBytes(&r)
				answers(t, "Write", c.Write(b, image), m.write(b, image))
			case k < 16:
				answers(t, "Pin", c.Pin(b), m.pin(b))
			case k < 18:
				answers(t, "Unpin", c.Unpin(b), m.unpin(b))
			case k < 20:
				answers(t, "Drop", c.Drop(b), m.drop(b))
				dropped = b
			case k < 21:
				answers(t, "Flush", c.Flush(), m.twin.Flush())
			case run%2 == 0:
				beside(&r, d, m.twin)
			}
			m.stays(t, c, before, dropped)
			m.same(t, c, d)
		}
		for _, l := range slices.Clone(m.in) {
			if got, e := c.Read(l.b); e != api.OK || !bytes.Equal(got, l.data) {
				t.Errorf("at the end Read(%d): %x, %d", l.b, got, e)
			}
		}
		if t.Failed() {
			t.Fatalf("run %d", run)
		}
	}
}
