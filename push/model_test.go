package push_test

import (
	"bytes"
	"slices"
	"testing"

	"levee/api"
	"levee/disk"
	"levee/patch"
	"levee/push"
)

// dice gives the same numbers below n in every run.
type dice uint32

func (d *dice) below(n int) int {
	*d ^= *d << 13
	*d ^= *d >> 17
	*d ^= *d << 5
	return int(uint32(*d) % uint32(n))
}

// waits is an act of the model, with its change.
type waits struct {
	id  int64
	act push.Act
}

// twins are two stores to which the same happens: one is pushed by the package, the other one by the chapter's words.
type twins struct {
	s, by *patch.Store
	d, on *disk.Disk
	count int64
	w     *push.Work
	acts  []waits
}

func newTwins(size int) *twins {
	x := &twins{w: push.New()}
	x.d, _ = disk.New(size)
	x.on, _ = disk.New(size)
	x.s, _ = patch.Open(x.d, size)
	x.by, _ = patch.Open(x.on, size)
	return x
}

func (x *twins) patch(t *testing.T, r *dice) {
	t.Helper()
	b, from, data := r.below(x.d.Len()), r.below(12), make([]byte, 1+r.below(5))
	for i := range data {
		data[i] = byte(1 + r.below(255))
	}
	var after []int64
	for range r.below(4) {
		if x.count > 0 {
			after = append(after, int64(1+r.below(int(x.count))))
		}
	}
	id, e := x.s.Patch(b, from, data, after...)
	same, f := x.by.Patch(b, from, data, after...)
	if id != same || e != api.OK || f != api.OK {
		t.Fatal("Patch", id, same, e, f)
	}
	x.count = id
}

// write writes those blocks that are ready, the least first, and flushes.
func (x *twins) write(needed func(b int) bool) int {
	writes := 0
	for b := range x.on.Len() {
		if needed(b) && x.by.Ready(b) > 0 {
			x.by.Write(b)
			writes++
		}
	}
	x.by.Flush()
	return writes
}

func (x *twins) one(t *testing.T, id int64) {
	t.Helper()
	must := x.s.Waits(id)
	before := x.d.Bytes()
	var blocks []int
	for _, w := range must {
		b, _ := x.s.Block(w)
		blocks = append(blocks, b)
	}
	n, e := push.One(x.s, id)
	want := 0
	for b, f := x.by.Block(id); f == api.OK; b, f = x.by.Block(id) {
		needs := []int{b}
		for _, w := range x.by.Waits(id) {
			at, _ := x.by.Block(w)
			needs = append(needs, at)
		}
		want += x.write(func(b int) bool { return slices.Contains(needs, b) })
	}
	tells(t, "One", n, e, want)
	x.behind(t, must, blocks, before)
}

// behind is P12.3: all that were waited for are safe, and blocks that none of them stood in are as they were.
func (x *twins) behind(t *testing.T, must []int64, blocks []int, before []byte) {
	t.Helper()
	for _, w := range must {
		if !x.s.Safe(w) {
			t.Errorf("%d was waited for, and is not safe", w)
		}
	}
	for b := range x.d.Len() {
		now, _ := x.d.Read(b)
		if !slices.Contains(blocks, b) && !bytes.Equal(now, before[b*api.Block:(b+1)*api.Block]) {
			t.Errorf("block %d was written", b)
		}
	}
}

func (x *twins) all(t *testing.T) {
	t.Helper()
	n, e := push.All(x.s)
	want := 0
	for x.by.Open() > 0 {
		want += x.write(func(b int) bool { return slices.Contains(x.by.Dirty(), b) })
	}
	tells(t, "All", n, e, want)
	if x.s.Open() != 0 {
		t.Error("open behind All", x.s.Open())
	}
	for b := range x.d.Len() {
		now, _ := x.s.Read(b)
		if safe, _ := x.d.Safe(b); !bytes.Equal(now, safe) {
			t.Errorf("behind All block %d is not safely what is read", b)
		}
	}
}

func (x *twins) step(t *testing.T, n int) {
	t.Helper()
	dirty := x.by.Dirty()
	b, e := push.Step(x.s, n)
	if len(dirty) == 0 {
		if b != 0 || e != api.ErrNone {
			t.Error("Step of nothing", b, e)
		}
		return
	}
	k := len(dirty)
	want := dirty[(n%k+k)%k]
	tells(t, "Step", b, e, want)
	x.by.Write(want)
}

func (x *twins) later(t *testing.T, r *dice) {
	t.Helper()
	w := waits{id: int64(r.below(int(x.count)+3) - 1), act: push.Act{Kind: r.below(5), N: r.below(4)}}
	if w.act.Kind < 1 || w.act.Kind > 3 {
		answers(t, "Later", x.w.Later(w.id, w.act), api.ErrArg)
		return
	}
	answers(t, "Later", x.w.Later(w.id, w.act), api.OK)
	x.acts = append(x.acts, w)
}

func (x *twins) ripe(t *testing.T) {
	t.Helper()
	var want []push.Act
	var left []waits
	for _, w := range x.acts {
		if w.id < 1 || x.s.Safe(w.id) {
			want = append(want, w.act)
		} else {
			left = append(left, w)
		}
	}
	x.acts = left
	ripe(t, x.w, x.s, want...)
}

// same holds the two against each other, their disks to the last write, and what waits against the list of it.
func (x *twins) same(t *testing.T) {
	t.Helper()
	for id := range x.count {
		if x.s.Safe(id+1) != x.by.Safe(id+1) {
			t.Errorf("Safe(%d): %v", id+1, x.s.Safe(id+1))
		}
	}
	if !bytes.Equal(x.d.Bytes(), x.on.Bytes()) || !slices.Equal(x.d.Open(), x.on.Open()) {
		t.Error("other bytes on the disk")
	}
	var acts []push.Act
	for _, w := range x.acts {
		acts = append(acts, w.act)
	}
	lists(t, x.w, acts...)
}

// P12.1 to P12.5: any calls, one behind the other.
func TestAnyCalls(t *testing.T) {
	r := dice(2463534242)
	for run := range 1500 {
		x := newTwins(1 + r.below(6))
		for range 60 {
			switch k := r.below(20); {
			case k < 10:
				x.patch(t, &r)
			case k < 12:
				x.one(t, int64(r.below(int(x.count)+3)-1))
			case k < 15:
				x.step(t, r.below(20)-10)
			case k < 16:
				x.s.Flush()
				x.by.Flush()
			case k < 18:
				x.later(t, &r)
			case k < 19:
				x.ripe(t)
			case r.below(3) == 0:
				x.all(t)
			}
			x.same(t)
		}
		x.all(t)
		x.ripe(t)
		x.same(t)
		if t.Failed() {
			t.Fatalf("run %d", run)
		}
	}
}

// P12.5: whatever is pushed between, an act is ripe once, and never ahead of its change.
func TestRipeOnce(t *testing.T) {
	r := dice(88172645)
	for run := range 300 {
		x := newTwins(4)
		came := map[int]int{}
		ids := map[int]int64{}
		for n := range 40 {
			x.patch(t, &r)
			ids[n] = int64(1 + r.below(int(x.count)))
			answers(t, "Later", x.w.Later(ids[n], push.Act{Kind: push.Other, N: n}), api.OK)
			push.Step(x.s, r.below(4))
			if r.below(4) == 0 {
				x.s.Flush()
			}
			if r.below(8) == 0 {
				push.One(x.s, int64(1+r.below(int(x.count))))
			}
			for _, a := range x.w.Ripe(x.s) {
				came[a.N]++
				if !x.s.Safe(ids[a.N]) {
					t.Errorf("run %d: act %d is ripe ahead of its change", run, a.N)
				}
			}
		}
		push.All(x.s)
		for _, a := range x.w.Ripe(x.s) {
			came[a.N]++
		}
		for n := range 40 {
			if came[n] != 1 {
				t.Errorf("run %d: act %d was ripe %d times", run, n, came[n])
			}
		}
	}
}

// P12.3, P12.4: behind One and All the power may go with nothing kept.
func TestSafeBehindACrash(t *testing.T) {
	r := dice(362436069)
	for run := range 300 {
		x := newTwins(5)
		for range 15 {
			x.patch(t, &r)
		}
		push.Step(x.s, r.below(5))
		if run%2 == 0 {
			push.One(x.s, int64(1+r.below(15)))
		}
		push.All(x.s)
		var want []byte
		for b := range 5 {
			now, _ := x.s.Read(b)
			want = append(want, now...)
		}
		x.d.Crash(nil)
		if !bytes.Equal(x.d.Bytes(), want) {
			t.Fatalf("run %d: the disk is not what was read", run)
		}
	}
}
