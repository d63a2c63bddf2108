package disk_test

import (
	"bytes"
	"slices"
	"testing"

	"levee/api"
	"levee/disk"
)

// dice gives the same numbers below n in every run.
type dice uint32

func (d *dice) Intn(n int) int {
	*d ^= *d << 13
	*d ^= *d >> 17
	*d ^= *d << 5
	return int(uint32(*d) % uint32(n))
}

// model is the chapter's words as a list: all that each block may be behind a crash, the safe bytes first.
type model struct {
	past [][]byte // a byte stands for a block's fill
	left int      // -1: no Stop
}

func (m *model) goes() bool {
	if m.left > 0 {
		m.left--
		return true
	}
	return m.left < 0
}

func (m *model) write(b int, c byte) {
	if m.goes() {
		m.past[b] = append(m.past[b], c)
	}
}

func (m *model) flush() {
	if m.goes() {
		for b, p := range m.past {
			m.past[b] = []byte{p[len(p)-1]}
		}
	}
}

func (m *model) crash(pick []int) {
	for b, p := range m.past {
		if len(p) == 1 {
			continue
		}
		k := 0
		if len(pick) > 0 {
			k = max(0, min(pick[0], len(p)-1))
			pick = pick[1:]
		}
		m.past[b] = []byte{p[k]}
	}
	m.left = -1
}

func (m *model) copied() *model {
	c := &model{left: m.left}
	for _, p := range m.past {
		c.past = append(c.past, slices.Clone(p))
	}
	return c
}

// same holds all that can be asked of a disk against the model.
func (m *model) same(t *testing.T, d *disk.Disk) {
	t.Helper()
	var all []byte
	var has []int
	for b, p := range m.past {
		all = append(all, fill(p[len(p)-1])...)
		reads(t, d, b, fill(p[len(p)-1]))
		safe(t, d, b, fill(p[0]))
		if d.Writes(b) != len(p)-1 {
			t.Errorf("Writes(%d): %d, not %d", b, d.Writes(b), len(p)-1)
		}
		if len(p) > 1 {
			has = append(has, b)
		}
	}
	open(t, d, has...)
	if d.Len() != len(m.past) || d.Stopped() != (m.left == 0) || !bytes.Equal(d.Bytes(), all) {
		t.Errorf("%d blocks, stopped %v, not %d, %v", d.Len(), d.Stopped(), len(m.past), m.left == 0)
	}
}

// P2.1 to P2.4: any calls, one behind the other, on a disk and on a copy of it that goes its own way.
func TestAnyCalls(t *testing.T) {
	r := dice(2463534242)
	for run := range 300 {
		size := 1 + r.Intn(5)
		d, m := fresh(t, size), &model{left: -1}
		for b := range size {
			write(t, d, b, byte(b))
			m.past = append(m.past, []byte{byte(b)})
		}
		flush(t, d)
		other, its := d.Copy(), m.copied()
		for range 60 {
			c := byte(r.Intn(256))
			switch k := r.Intn(20); {
			case k < 11:
				b := r.Intn(size)
				write(t, d, b, c)
				m.write(b, c)
			case k < 13:
				flush(t, d)
				m.flush()
			case k < 15:
				n := r.Intn(9) - 1
				d.Stop(n)
				m.left = max(n, 0)
			case k < 17:
				pick := make([]int, r.Intn(size+2))
				for i := range pick {
					pick[i] = r.Intn(7) - 1
				}
				d.Crash(pick)
				m.crash(pick)
			case k < 18:
				other, its = d.Copy(), m.copied()
			case k < 19:
				d, other, m, its = other, d, its, m
			default:
				d.Write(size, fill(c))
				d.Write(0, nil)
			}
			m.same(t, d)
			its.same(t, other)
		}
		if t.Failed() {
			t.Fatalf("run %d", run)
		}
	}
}

// P2.3: what was flushed and not written since is there behind each crash, whatever is picked.
func TestFlushedIsThere(t *testing.T) {
	for x := range 5 {
		for y := range 5 {
			d := fresh(t, 3)
			write(t, d, 0, 1)
			write(t, d, 1, 2, 3)
			flush(t, d)
			write(t, d, 0, 4)
			write(t, d, 2, 5, 6)
			d.Crash([]int{x - 1, y - 1, 9})
			reads(t, d, 1, fill(3))
			d.Crash([]int{9, 9, 9})
			reads(t, d, 1, fill(3))
		}
	}
}

// P2.4: behind each crash each block is as at the last Flush or at one of its writes since, as the pick says, each by itself.
func TestCrashIsOneOfThePast(t *testing.T) {
	for x := range 4 {
		for y := range 4 {
			for z := range 4 {
				d := fresh(t, 3)
				for b := range 3 {
					write(t, d, b, 99, byte(10*b))
				}
				flush(t, d)
				for i := range 3 {
					for b := range 3 {
						write(t, d, b, byte(10*b+i+1))
					}
				}
				d.Crash([]int{x, y, z})
				for b, k := range []int{x, y, z} {
					reads(t, d, b, fill(byte(10*b+k)))
				}
			}
		}
	}
}

// P2.4 with a Stop: what did not take place is nowhere.
func TestStoppedIsNowhere(t *testing.T) {
	for n := range 8 {
		d := fresh(t, 1)
		write(t, d, 0, 1)
		flush(t, d)
		d.Stop(n)
		write(t, d, 0, 2, 3)
		flush(t, d)
		write(t, d, 0, 4, 5)
		flush(t, d)
		d.Crash([]int{99})
		reads(t, d, 0, fill([]byte{1, 2, 3, 3, 4, 5, 5, 5}[n]))
		if e := d.Write(0, fill(7)); e != api.OK || d.Writes(0) != 1 {
			t.Error("Write behind a crash", e)
		}
	}
}
