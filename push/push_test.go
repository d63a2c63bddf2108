package push_test

import (
	"bytes"
	"math"
	"slices"
	"testing"

	"levee/api"
	"levee/disk"
	"levee/patch"
	"levee/push"
)

// wrong are kinds that no act has.
var wrong = []int{math.MinInt, -1, 0, 4, 5, 256, math.MaxInt}

// unknown are numbers that are no change's, if there are fewer than 90.
var unknown = []int64{math.MinInt64, -1, 0, 90, 4096, math.MaxInt64}

// fresh is a store of a disk of eight blocks.
func fresh(t *testing.T) (*patch.Store, *disk.Disk) {
	t.Helper()
	d, _ := disk.New(8)
	s, e := patch.Open(d, 8)
	if e != api.OK {
		t.Fatal("Open", e)
	}
	return s, d
}

// patched makes a change that must be taken.
func patched(t *testing.T, s *patch.Store, b, from int, text string, after ...int64) int64 {
	t.Helper()
	id, e := s.Patch(b, from, []byte(text), after...)
	if e != api.OK {
		t.Fatalf("Patch(%d, %d, %q, %v): %d", b, from, text, after, e)
	}
	return id
}

// example is chapter 11's: three changes one behind the other in two blocks.
func example(t *testing.T) (*patch.Store, *disk.Disk) {
	t.Helper()
	s, d := fresh(t)
	patched(t, s, 5, 0, "a")
	patched(t, s, 6, 0, "b", 1)
	patched(t, s, 5, 1, "c", 2)
	return s, d
}

func answers(t *testing.T, what string, got, want api.Errno) {
	t.Helper()
	if got != want {
		t.Errorf("%s: %d, not %d", what, got, want)
	}
}

// tells holds a number and no error against a wanted one.
func tells(t *testing.T, what string, got int, e api.Errno, want int) {
	t.Helper()
	if got != want || e != api.OK {
		t.Errorf("%s: %d, %d, not %d", what, got, e, want)
	}
}

func safe(t *testing.T, s *patch.Store, last int64, want ...int64) {
	t.Helper()
	for id := range last {
		if s.Safe(id+1) != slices.Contains(want, id+1) {
			t.Errorf("Safe(%d): %v, and safe are %v", id+1, s.Safe(id+1), want)
		}
	}
}

func lists(t *testing.T, w *push.Work, want ...push.Act) {
	t.Helper()
	if got := w.List(); !slices.Equal(got, want) || w.Len() != len(want) {
		t.Errorf("List: %v, %d, not %v", got, w.Len(), want)
	}
	for _, a := range want {
		if !w.Waits(a) {
			t.Errorf("Waits(%v) of %v", a, want)
		}
	}
}

func ripe(t *testing.T, w *push.Work, s *patch.Store, want ...push.Act) {
	t.Helper()
	if got := w.Ripe(s); !slices.Equal(got, want) {
		t.Errorf("Ripe: %v, not %v", got, want)
	}
}

func later(t *testing.T, w *push.Work, id int64, a push.Act) {
	t.Helper()
	answers(t, "Later", w.Later(id, a), api.OK)
}

// P12.1: the kinds have the chapter's numbers.
func TestKinds(t *testing.T) {
	if push.FreeBlock != 1 || push.FreeSlot != 2 || push.Other != 3 {
		t.Error("kinds", push.FreeBlock, push.FreeSlot, push.Other)
	}
}

// P12.1: of nil ErrNil, none, 0, false; work that New did not make is empty.
func TestNoWork(t *testing.T) {
	s, _ := example(t)
	push.All(s)
	var w *push.Work
	for _, a := range []push.Act{{}, {Kind: 1}, {Kind: 4, N: 1}} {
		answers(t, "Later of nil", w.Later(1, a), api.ErrNil)
		answers(t, "Later of nil", w.Later(0, a), api.ErrNil)
		if w.Waits(a) {
			t.Error("Waits of nil")
		}
	}
	ripe(t, w, s)
	ripe(t, w, nil)
	lists(t, w)
	w = new(push.Work)
	lists(t, w)
	later(t, w, 1, push.Act{Kind: 1})
	ripe(t, w, s, push.Act{Kind: 1})
}

// P12.1: an act whose kind can not be is refused, of whatever number; a full work refuses all others behind that.
func TestLater(t *testing.T) {
	w := push.New()
	lists(t, w)
	for _, kind := range wrong {
		for _, id := range append([]int64{1}, unknown...) {
			answers(t, "Later of a wrong kind", w.Later(id, push.Act{Kind: kind, N: 1}), api.ErrArg)
		}
	}
	lists(t, w)
	var all []push.Act
	for i := range api.MaxBlocks {
		a := push.Act{Kind: 1 + i%3, N: []int{i, -i, math.MaxInt, math.MinInt}[i%4]}
		later(t, w, int64(i%2), a)
		all = append(all, a)
	}
	for range 3 {
		answers(t, "Later of one more than can be", w.Later(1, push.Act{Kind: 1}), api.ErrFull)
		answers(t, "Later of one more than can be", w.Later(0, push.Act{Kind: 3}), api.ErrFull)
		answers(t, "Later of a wrong kind", w.Later(1, push.Act{Kind: 4}), api.ErrArg)
	}
	lists(t, w, all...)
	if got := w.Ripe(nil); len(got) != api.MaxBlocks/2 || w.Len() != api.MaxBlocks/2 {
		t.Error("Ripe", len(got), w.Len())
	}
	later(t, w, 1, push.Act{Kind: 2})
	if w.Len() != api.MaxBlocks/2+1 {
		t.Error("Len", w.Len())
	}
}

// P12.1: those whose change is safe, in their order, whatever their numbers; below 1 at once; the others wait on in theirs.
func TestRipe(t *testing.T) {
	s, _ := example(t)
	w := push.New()
	act := func(n int) push.Act { return push.Act{Kind: 1 + n%3, N: n} }
	for i, id := range []int64{3, 1, 2, 0, 1, 3, 2, -7, 3, math.MinInt64, 99, 1, math.MaxInt64} {
		later(t, w, id, act(i))
	}
	ripe(t, w, s, act(3), act(7), act(9))
	ripe(t, w, s)
	lists(t, w, act(0), act(1), act(2), act(4), act(5), act(6), act(8), act(10), act(11), act(12))
	s.Write(5)
	ripe(t, w, s)
	s.Flush()
	later(t, w, 1, act(13))
	ripe(t, w, s, act(1), act(4), act(11), act(13))
	ripe(t, w, s)
	push.One(s, 2)
	ripe(t, w, nil)
	ripe(t, w, s, act(2), act(6))
	lists(t, w, act(0), act(5), act(8), act(10), act(12))
	push.All(s)
	ripe(t, w, s, act(0), act(5), act(8))
	lists(t, w, act(10), act(12))
	ripe(t, w, s)
}

// P12.1: the same act may wait more than once, and is asked for by its kind and its number.
func TestWaits(t *testing.T) {
	s, _ := example(t)
	w := push.New()
	a := push.Act{Kind: push.FreeBlock, N: 9}
	later(t, w, 1, a)
	later(t, w, 2, a)
	later(t, w, 2, push.Act{Kind: push.FreeSlot, N: 8})
	for _, not := range []push.Act{{}, {Kind: 1}, {Kind: 1, N: 8}, {Kind: 2, N: 9}, {Kind: 3, N: 9}, {Kind: 9, N: 1}, {Kind: 1, N: -9}} {
		if w.Waits(not) {
			t.Errorf("Waits(%v)", not)
		}
	}
	push.One(s, 1)
	ripe(t, w, s, a)
	lists(t, w, a, push.Act{Kind: push.FreeSlot, N: 8})
	push.One(s, 2)
	ripe(t, w, s, a, push.Act{Kind: push.FreeSlot, N: 8})
	if w.Waits(a) {
		t.Error("a ripe act waits")
	}
}

// The rules 4 and 5: what is answered is seen by no later answer.
func TestNewMemory(t *testing.T) {
	s, _ := example(t)
	w := push.New()
	a, b, c := push.Act{Kind: 1, N: 1}, push.Act{Kind: 2, N: 2}, push.Act{Kind: 3, N: 3}
	for i, x := range []push.Act{a, b, c} {
		later(t, w, int64(i), x)
	}
	list := w.List()
	clear(list)
	_ = append(list[:1], c, c)
	lists(t, w, a, b, c)
	was := w.List()
	got := w.Ripe(s)
	clear(got)
	_ = append(got, c, c, c)
	later(t, w, 1, a)
	lists(t, w, b, c, a)
	if !slices.Equal(was, []push.Act{a, b, c}) {
		t.Error("an answer turned with the work", was)
	}
	push.All(s)
	got = w.Ripe(s)
	later(t, w, 3, c)
	later(t, w, 3, a)
	later(t, w, 3, b)
	if !slices.Equal(got, []push.Act{b, c, a}) {
		t.Error("an answer turned with the work", got)
	}
}

// P12.2: of no store ErrNil; of one without changes there is nothing to do.
func TestNoStore(t *testing.T) {
	for _, id := range append([]int64{1}, unknown...) {
		if n, e := push.One(nil, id); n != 0 || e != api.ErrNil {
			t.Error("One of nil", n, e)
		}
	}
	if n, e := push.All(nil); n != 0 || e != api.ErrNil {
		t.Error("All of nil", n, e)
	}
	empty, d := fresh(t)
	for _, n := range []int{math.MinInt, -1, 0, 1, math.MaxInt} {
		if b, e := push.Step(nil, n); b != 0 || e != api.ErrNil {
			t.Error("Step of nil", b, e)
		}
		for _, s := range []*patch.Store{empty, new(patch.Store)} {
			if b, e := push.Step(s, n); b != 0 || e != api.ErrNone {
				t.Error("Step of nothing", b, e)
			}
		}
	}
	for _, s := range []*patch.Store{empty, new(patch.Store)} {
		n, e := push.All(s)
		tells(t, "All of nothing", n, e, 0)
		for _, id := range append([]int64{1}, unknown...) {
			n, e := push.One(s, id)
			tells(t, "One of nothing", n, e, 0)
		}
	}
	d.Stop(1)
	push.All(empty)
	push.One(empty, 1)
	if d.Stopped() {
		t.Error("nothing to do, and the disk was flushed")
	}
}

// The document's example: One of the third takes three writes.
func TestExample(t *testing.T) {
	s, d := example(t)
	n, e := push.One(s, 3)
	tells(t, "One", n, e, 3)
	safe(t, s, 3, 1, 2, 3)
	five, _ := d.Safe(5)
	six, _ := d.Safe(6)
	if string(five[:2]) != "ac" || six[0] != 'b' {
		t.Errorf("%q, %q", five[:2], six[:1])
	}
}

// P12.2: One goes as far as it must: those behind the change stay open, unless they are written with it.
func TestOne(t *testing.T) {
	for id, want := range []int{0, 1, 2, 3} {
		s, d := example(t)
		other := patched(t, s, 7, 0, "z")
		n, e := push.One(s, int64(id))
		tells(t, "One", n, e, want)
		if now, _ := d.Safe(7); now[0] != 0 || s.Safe(other) || d.Writes(7) != 0 {
			t.Error("a block was written that none of them stands in")
		}
		for i := range int64(3) {
			if s.Safe(i+1) != (i < int64(id)) {
				t.Errorf("behind One(%d) Safe(%d): %v", id, i+1, s.Safe(i+1))
			}
		}
		n, e = push.One(s, int64(id))
		tells(t, "One of a safe change", n, e, 0)
	}
	s, d := example(t)
	d.Stop(0)
	for _, id := range append(unknown, 4) {
		n, e := push.One(s, id)
		tells(t, "One of a number that is no change's", n, e, 0)
	}
	safe(t, s, 3)
}

// P12.2: of a block that is needed all goes that may, also what is not waited for; and once a round.
func TestOneTakesAlong(t *testing.T) {
	s, d := example(t)
	along := patched(t, s, 5, 9, "x")
	not := patched(t, s, 5, 10, "y", patched(t, s, 1, 0, "k"))
	n, e := push.One(s, 1)
	tells(t, "One", n, e, 1)
	safe(t, s, not, 1, along)
	n, e = push.One(s, 2)
	tells(t, "One", n, e, 1)
	n, e = push.One(s, not) // 5 goes with the third change first
	tells(t, "One", n, e, 3)
	safe(t, s, not, 1, 2, 3, along, not-1, not)
	if len(d.Open()) != 0 {
		t.Error("written and not flushed", d.Open())
	}
}

// P12.2: blocks whose changes are safe already in the round ahead are not written again, though others of theirs are ready.
func TestOneAsksAnew(t *testing.T) {
	s, d := fresh(t)
	a := patched(t, s, 1, 0, "a")
	b := patched(t, s, 2, 0, "b", a)
	c := patched(t, s, 1, 5, "c", a, patched(t, s, 3, 0, "x"))
	s.Write(3)
	n, e := push.One(s, b)
	tells(t, "One", n, e, 2)
	if s.Safe(c) || s.Ready(1) != 1 {
		t.Error("a block was written that none of the open ones stands in")
	}
	if now, _ := d.Read(1); now[5] != 0 {
		t.Error("block 1 was written twice")
	}
}

// P12.2: a change that was written and not flushed needs no more writes, and is flushed.
func TestWrittenNotFlushed(t *testing.T) {
	s, d := example(t)
	s.Write(5)
	n, e := push.One(s, 1)
	tells(t, "One", n, e, 0)
	safe(t, s, 3, 1)
	s.Write(6)
	n, e = push.All(s)
	tells(t, "All", n, e, 1)
	safe(t, s, 3, 1, 2, 3)
	if len(d.Open()) != 0 {
		t.Error("written and not flushed", d.Open())
	}
	patched(t, s, 1, 0, "x")
	s.Write(1)
	n, e = push.All(s)
	tells(t, "All", n, e, 0)
	safe(t, s, 4, 1, 2, 3, 4)
}

// P12.2: by what it meets a change waits, too.
func TestOneMeets(t *testing.T) {
	s, _ := fresh(t)
	k := patched(t, s, 1, 0, "k")
	patched(t, s, 2, 0, "aa", k)
	m := patched(t, s, 2, 1, "m")
	n, e := push.One(s, m)
	tells(t, "One", n, e, 2)
	safe(t, s, 3, 1, 2, 3)
}

// P12.2: in a round the blocks are written rising, all ahead of the Flush, as the points show at which the power goes.
func TestRisingThenFlush(t *testing.T) {
	for stop, want := range [][]int{{}, {2}, {2, 4}, {2, 4, 6}, {}, {0}, {}, {}} {
		for _, one := range []bool{true, false} {
			s, d := fresh(t)
			for _, b := range []int{6, 2, 4} {
				patched(t, s, b, 0, "x")
			}
			last := patched(t, s, 0, 0, "x", 1, 2, 3)
			d.Stop(stop)
			if one {
				n, e := push.One(s, last)
				tells(t, "One", n, e, 4)
			} else {
				n, e := push.All(s)
				tells(t, "All", n, e, 4)
			}
			if !slices.Equal(d.Open(), want) {
				t.Errorf("Stop(%d): written are %v, not %v", stop, d.Open(), want)
			}
			if now, _ := d.Safe(6); (now[0] == 'x') != (stop >= 4) {
				t.Errorf("Stop(%d): block 6 is %x", stop, now[0])
			}
		}
	}
}

// P12.2: the number is counted round and round, from both ends.
func TestStep(t *testing.T) {
	for _, c := range []struct{ n, want int }{
		{0, 2}, {1, 4}, {2, 6}, {3, 2}, {4, 4}, {-1, 6}, {-2, 4}, {-3, 2}, {-4, 6},
		{math.MaxInt, 4}, {math.MinInt, 4}, {math.MaxInt - 1, 2}, {math.MinInt + 1, 6}, {300, 2}, {-300, 2},
	} {
		s, d := fresh(t)
		for _, b := range []int{6, 2, 4} {
			patched(t, s, b, 0, "x")
		}
		b, e := push.Step(s, c.n)
		tells(t, "Step", b, e, c.want)
		if !slices.Equal(d.Open(), []int{c.want}) || d.Writes(c.want) != 1 {
			t.Errorf("Step(%d) wrote %v", c.n, d.Open())
		}
		if s.Open() != 3 {
			t.Error("Step flushed")
		}
	}
}

// P12.2: also a block is written of which nothing is ready; it stays dirty.
func TestStepOfNothingReady(t *testing.T) {
	s, d := example(t)
	b, e := push.Step(s, 1)
	tells(t, "Step", b, e, 6)
	if now, _ := d.Read(6); d.Writes(6) != 1 || now[0] != 0 {
		t.Error("Step", d.Writes(6), now[0])
	}
	s.Flush()
	safe(t, s, 3)
	for _, n := range []int{0, 1, 0} {
		push.Step(s, n)
		s.Flush()
	}
	if _, e := push.Step(s, 0); e != api.ErrNone || s.Open() != 0 {
		t.Error("Step behind all", e)
	}
}

// A chain as long as this takes a write a change.
func TestLongChain(t *testing.T) {
	const n = 600
	s, _ := fresh(t)
	for i := range int64(n) {
		var after []int64
		if i > 0 {
			after = []int64{i}
		}
		patched(t, s, int(i%2), int(i%256), "x", after...)
	}
	k, e := push.One(s, n/2)
	tells(t, "One", k, e, n/2)
	k, e = push.All(s)
	tells(t, "All", k, e, n/2)
}

// A disk that stopped answers as if it went on: One and All end.
func TestStoppedDisk(t *testing.T) {
	s, d := example(t)
	d.Stop(0)
	n, e := push.One(s, 2)
	tells(t, "One", n, e, 2)
	n, e = push.All(s)
	tells(t, "All", n, e, 1)
	d.Crash(nil)
	if !bytes.Equal(d.Bytes(), make([]byte, 8*api.Block)) {
		t.Error("a disk that stopped was written")
	}
}
