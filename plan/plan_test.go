package plan_test

import (
	"math"
	"slices"
	"testing"

	"levee/alloc"
	"levee/api"
	"levee/disk"
	"levee/geo"
	"levee/plan"
	"levee/push"
	"levee/vol"
)

// example is a shape whose groups have 13 data blocks: 5 to 17, 21 to 33, 37 to 49.
var example = api.Geo{Group: 16, Inodes: 8, Groups: 3}

// wide is the shape with the most data blocks in a group: 126, from 4 on.
var wide = api.Geo{Group: api.MaxGroup, Inodes: api.PerTable, Groups: 1}

// far are numbers that no group and no run has.
var far = []int{math.MinInt, math.MinInt + 1, -4096, -2, -1, 4097, 65536, math.MaxInt - 1, math.MaxInt}

// fresh is a new volume's blocks.
func fresh(t *testing.T, g api.Geo) *alloc.Alloc {
	t.Helper()
	d, _ := disk.New(geo.Size(g))
	return on(t, d, g)
}

// on is all of a new volume on a disk.
func on(t *testing.T, d *disk.Disk, g api.Geo) *alloc.Alloc {
	t.Helper()
	if e := vol.Format(d, g); e != api.OK {
		t.Fatal("Format", e)
	}
	v, e := vol.Mount(d)
	if e != api.OK {
		t.Fatal("Mount", e)
	}
	return alloc.New(v)
}

// take takes these blocks.
func take(t *testing.T, a *alloc.Alloc, blocks ...int) {
	t.Helper()
	for _, b := range blocks {
		g := a.Vol().Geo()
		_, k := geo.Kind(g, b)
		near := b - 1
		if first, behind := geo.Range(g, k); b == first {
			near = behind - 1 // behind a group's last place comes its first
		}
		if got, _, e := a.Block(near); got != b || e != api.OK {
			t.Fatalf("Block(%d): %d, %d, not %d", near, got, e, b)
		}
	}
}

// give gives these blocks, at once.
func give(t *testing.T, a *alloc.Alloc, blocks ...int) {
	t.Helper()
	for _, b := range blocks {
		if e := a.FreeBlock(b, 0); e != api.OK {
			t.Fatalf("FreeBlock(%d): %d", b, e)
		}
	}
	if n := a.Settle(); n != len(blocks) {
		t.Fatal("Settle", n)
	}
}

// span is the numbers from one on, up to the one ahead of another.
func span(first, behind int) []int {
	var l []int
	for b := first; b < behind; b++ {
		l = append(l, b)
	}
	return l
}

// leave takes all blocks of group 0 but runs of these lengths, with one block between, from the group's first one on.
func leave(t *testing.T, a *alloc.Alloc, lengths ...int) {
	t.Helper()
	at, behind := geo.Range(a.Vol().Geo(), 0)
	for _, n := range lengths {
		at += n
		if at < behind {
			take(t, a, at)
			at++
		}
	}
	if at < behind {
		take(t, a, span(at, behind)...)
	}
}

func freeze(t *testing.T, a *alloc.Alloc, k int, on bool) {
	t.Helper()
	if e := a.Freeze(k, on); e != api.OK {
		t.Fatal("Freeze", k, e)
	}
}

// runs holds runs against what they must be.
func runs(t *testing.T, what string, got []plan.Run, want ...plan.Run) {
	t.Helper()
	if !slices.Equal(got, want) {
		t.Errorf("%s: %v, not %v", what, got, want)
	}
}

// run holds one run against what it must be.
func run(t *testing.T, what string, got, want plan.Run) {
	t.Helper()
	if got != want {
		t.Errorf("%s: %v, not %v", what, got, want)
	}
}

func number(t *testing.T, what string, got, want int) {
	t.Helper()
	if got != want {
		t.Errorf("%s: %d, not %d", what, got, want)
	}
}

func sizes(t *testing.T, a *alloc.Alloc, want [8]int) {
	t.Helper()
	if got := plan.Sizes(a); got != want {
		t.Errorf("Sizes: %v, not %v", got, want)
	}
}

// The chapter's example.
func TestExample(t *testing.T) {
	a := fresh(t, api.Geo{Group: 16, Inodes: 8, Groups: 1})
	runs(t, "Runs", plan.Runs(a, 0), plan.Run{At: 5, N: 13})
	number(t, "Score", plan.Score(a), 0)
	take(t, a, 11)
	runs(t, "Runs", plan.Runs(a, 0), plan.Run{At: 5, N: 6}, plan.Run{At: 12, N: 6})
	number(t, "Score", plan.Score(a), 500)
}

// nothing holds all calls against what they answer where nothing is free.
func nothing(t *testing.T, a *alloc.Alloc) {
	t.Helper()
	runs(t, "All", plan.All(a))
	run(t, "Longest", plan.Longest(a), plan.Run{})
	sizes(t, a, [8]int{})
	number(t, "Score", plan.Score(a), 0)
	for _, n := range append(far, 0, 1, 2, 13) {
		run(t, "Best", plan.Best(a, n), plan.Run{})
		number(t, "Room", plan.Room(a, n), 0)
	}
}

// P31.1, P31.2: of nil, and of one without a volume: none, zero.
func TestNoVolume(t *testing.T) {
	for _, a := range []*alloc.Alloc{nil, new(alloc.Alloc), alloc.New(nil), alloc.New(new(vol.Vol))} {
		nothing(t, a)
		for _, k := range append(far, 0, 1, 15, 16) {
			runs(t, "Runs", plan.Runs(a, k))
		}
	}
}

// P31.1: of groups that are not there no run.
func TestNoGroup(t *testing.T) {
	a := fresh(t, example)
	for _, k := range append(far, 3, 4, 15, 16, 17) {
		runs(t, "Runs", plan.Runs(a, k))
	}
	runs(t, "Runs of the last group", plan.Runs(a, 2), plan.Run{At: 37, N: 13})
}

// P31.1: runs at a group's first data block, that end with the group, and with the volume; one does not go on in the next group.
func TestRuns(t *testing.T) {
	a := fresh(t, example)
	runs(t, "All of a fresh one", plan.All(a), plan.Run{At: 5, N: 13}, plan.Run{At: 21, N: 13}, plan.Run{At: 37, N: 13})
	take(t, a, 7, 10, 11, 16)
	runs(t, "Runs", plan.Runs(a, 0), plan.Run{At: 5, N: 2}, plan.Run{At: 8, N: 2}, plan.Run{At: 12, N: 4}, plan.Run{At: 17, N: 1})
	take(t, a, 21, 23, 33)
	runs(t, "Runs", plan.Runs(a, 1), plan.Run{At: 22, N: 1}, plan.Run{At: 24, N: 9})
	take(t, a, 48)
	runs(t, "Runs", plan.Runs(a, 2), plan.Run{At: 37, N: 11}, plan.Run{At: 49, N: 1})
	runs(t, "All", plan.All(a), slices.Concat(plan.Runs(a, 0), plan.Runs(a, 1), plan.Runs(a, 2))...)
	number(t, "all runs", len(plan.All(a)), 8)
	number(t, "Score", plan.Score(a), 1000-1000*11/(39-8))
}

// P31.1: groups of which all is free, and nothing.
func TestFullGroups(t *testing.T) {
	a := fresh(t, example)
	take(t, a, span(21, 34)...)
	runs(t, "Runs of a full one", plan.Runs(a, 1))
	runs(t, "All", plan.All(a), plan.Run{At: 5, N: 13}, plan.Run{At: 37, N: 13})
	number(t, "Score", plan.Score(a), 500)
	take(t, a, span(5, 18)...)
	number(t, "Score", plan.Score(a), 0)
	take(t, a, span(37, 50)...)
	nothing(t, a)
	for k := range 3 {
		runs(t, "Runs of a full one", plan.Runs(a, k))
	}
	give(t, a, 33)
	runs(t, "All", plan.All(a), plan.Run{At: 33, N: 1})
	number(t, "Score", plan.Score(a), 0)
}

// P31.1, P31.2: frozen groups do not count; their Runs are told all the same.
func TestFrozen(t *testing.T) {
	a := fresh(t, example)
	take(t, a, 8, 25, 26)
	freeze(t, a, 2, true)
	first, second := []plan.Run{{At: 5, N: 3}, {At: 9, N: 9}}, []plan.Run{{At: 21, N: 4}, {At: 27, N: 7}}
	runs(t, "Runs of a frozen one", plan.Runs(a, 2), plan.Run{At: 37, N: 13})
	runs(t, "All", plan.All(a), slices.Concat(first, second)...)
	run(t, "Longest", plan.Longest(a), plan.Run{At: 9, N: 9})
	run(t, "Best", plan.Best(a, 10), plan.Run{})
	run(t, "Best", plan.Best(a, 8), plan.Run{At: 9, N: 9})
	sizes(t, a, [8]int{0, 1, 2, 1})
	number(t, "Score", plan.Score(a), 1000-9000/23)
	number(t, "Room", plan.Room(a, 4), 2+1+1)
	freeze(t, a, 0, true)
	runs(t, "Runs of a frozen one", plan.Runs(a, 0), first...)
	runs(t, "All", plan.All(a), second...)
	run(t, "Longest", plan.Longest(a), plan.Run{At: 27, N: 7})
	freeze(t, a, 1, true)
	nothing(t, a)
	runs(t, "Runs of a frozen one", plan.Runs(a, 1), second...)
	freeze(t, a, 2, false)
	runs(t, "All", plan.All(a), plan.Run{At: 37, N: 13})
	number(t, "Score", plan.Score(a), 0)
	freeze(t, a, 0, false)
	freeze(t, a, 1, false)
	number(t, "Score", plan.Score(a), 1000-13000/36)
}

// all is what is told of a volume in all.
type all struct {
	runs       [3]int
	longest    plan.Run
	best       [15]plan.Run
	sizes      [8]int
	score      int
	room       [15]int
	where, len int // a sum of all runs' places, and how many they are
}

func told(a *alloc.Alloc) all {
	w := all{longest: plan.Longest(a), sizes: plan.Sizes(a), score: plan.Score(a)}
	for k := range w.runs {
		for _, r := range plan.Runs(a, k) {
			w.runs[k] = w.runs[k]*1009 + r.At*31 + r.N
		}
	}
	for _, r := range plan.All(a) {
		w.where += r.At * (r.N + 100)
		w.len++
	}
	for n := range w.best {
		w.best[n], w.room[n] = plan.Best(a, n), plan.Room(a, n)
	}
	return w
}

// P31.4: a block that is taken in the middle of a run breaks it, at its beginning or end it shortens it; the last one ends it. Given again, all is as it was.
func TestTakenAndGiven(t *testing.T) {
	for _, c := range []struct {
		taken []int
		b     int
		want  []plan.Run
	}{
		{nil, 11, []plan.Run{{5, 6}, {12, 6}}},
		{nil, 6, []plan.Run{{5, 1}, {7, 11}}},
		{nil, 16, []plan.Run{{5, 11}, {17, 1}}},
		{nil, 5, []plan.Run{{6, 12}}},
		{nil, 17, []plan.Run{{5, 12}}},
		{[]int{8, 12}, 9, []plan.Run{{5, 3}, {10, 2}, {13, 5}}},
		{[]int{8, 12}, 10, []plan.Run{{5, 3}, {9, 1}, {11, 1}, {13, 5}}},
		{[]int{8, 12}, 11, []plan.Run{{5, 3}, {9, 2}, {13, 5}}},
		{[]int{8, 10}, 9, []plan.Run{{5, 3}, {11, 7}}},
		{[]int{6}, 5, []plan.Run{{7, 11}}},
		{[]int{16}, 17, []plan.Run{{5, 11}}},
	} {
		a := fresh(t, example)
		take(t, a, c.taken...)
		ahead := told(a)
		take(t, a, c.b)
		runs(t, "Runs", plan.Runs(a, 0), c.want...)
		if told(a) == ahead {
			t.Error("nothing tells that it is taken", c.b)
		}
		give(t, a, c.b)
		if told(a) != ahead {
			t.Error("given again, it is not as it was", c.b)
		}
	}
}

// P31.1: a block that waits to be free is taken, till it is settled.
func TestWaits(t *testing.T) {
	a := fresh(t, example)
	take(t, a, 9)
	id, _ := a.Vol().SetData(9, 0, []byte("gone"))
	want := []plan.Run{{At: 5, N: 4}, {At: 10, N: 8}}
	if e := a.FreeBlock(9, id); e != api.OK {
		t.Fatal("FreeBlock", e)
	}
	runs(t, "given", plan.Runs(a, 0), want...)
	a.Settle()
	runs(t, "given, its change not safe", plan.Runs(a, 0), want...)
	push.All(a.Vol().Store())
	runs(t, "given, not settled", plan.Runs(a, 0), want...)
	number(t, "Settle", a.Settle(), 1)
	runs(t, "settled", plan.Runs(a, 0), plan.Run{At: 5, N: 13})
}

// P31.1: of runs of the same length the first one is Longest, and Best, in one group and in several.
func TestSameLength(t *testing.T) {
	a := fresh(t, example)
	run(t, "Longest", plan.Longest(a), plan.Run{At: 5, N: 13})
	run(t, "Best", plan.Best(a, 1), plan.Run{At: 5, N: 13})
	take(t, a, 5, 9, 13, 29, 49) // 6 with 3, 10 with 3, 14 with 4; 21 with 8, 30 with 4; 37 with 12
	run(t, "Best", plan.Best(a, 1), plan.Run{At: 6, N: 3})
	run(t, "Best", plan.Best(a, 3), plan.Run{At: 6, N: 3})
	run(t, "Best", plan.Best(a, 4), plan.Run{At: 14, N: 4})
	freeze(t, a, 2, true)
	take(t, a, 25) // 21 with 4, 26 with 3, 30 with 4
	run(t, "Longest", plan.Longest(a), plan.Run{At: 14, N: 4})
	freeze(t, a, 0, true)
	run(t, "Longest", plan.Longest(a), plan.Run{At: 21, N: 4})
	run(t, "Best", plan.Best(a, 4), plan.Run{At: 21, N: 4})
	run(t, "Best", plan.Best(a, 2), plan.Run{At: 26, N: 3})
}

// P31.1, P31.2: Best and Room of no length, of 1, of the longest run's, of one more, and of any.
func TestBestAndRoom(t *testing.T) {
	a := fresh(t, example)
	freeze(t, a, 1, true)
	freeze(t, a, 2, true)
	take(t, a, 7, 9) // 5 with 2, 8 with 1, 10 with 8
	for _, c := range []struct {
		n    int
		best plan.Run
		room int
	}{
		{0, plan.Run{}, 0}, {1, plan.Run{At: 8, N: 1}, 11}, {2, plan.Run{At: 5, N: 2}, 5}, {3, plan.Run{At: 10, N: 8}, 2},
		{4, plan.Run{At: 10, N: 8}, 2}, {5, plan.Run{At: 10, N: 8}, 1}, {7, plan.Run{At: 10, N: 8}, 1},
		{8, plan.Run{At: 10, N: 8}, 1}, {9, plan.Run{}, 0}, {11, plan.Run{}, 0},
	} {
		run(t, "Best", plan.Best(a, c.n), c.best)
		number(t, "Room", plan.Room(a, c.n), c.room)
	}
	for _, n := range far {
		run(t, "Best", plan.Best(a, n), plan.Run{})
		number(t, "Room", plan.Room(a, n), 0)
	}
}

// P31.2: runs of a length alone and beside others; 126 blocks are the most that a group has, so no run has 127 or 128.
func TestSizes(t *testing.T) {
	for _, c := range []struct {
		lengths []int
		want    [8]int
	}{
		{[]int{1}, [8]int{1}}, {[]int{2}, [8]int{0, 1}}, {[]int{3}, [8]int{0, 1}}, {[]int{4}, [8]int{0, 0, 1}},
		{[]int{7}, [8]int{0, 0, 1}}, {[]int{8}, [8]int{0, 0, 0, 1}}, {[]int{15}, [8]int{0, 0, 0, 1}}, {[]int{16}, [8]int{4: 1}},
		{[]int{31}, [8]int{4: 1}}, {[]int{32}, [8]int{5: 1}}, {[]int{63}, [8]int{5: 1}}, {[]int{64}, [8]int{6: 1}},
		{[]int{125}, [8]int{6: 1}}, {[]int{126}, [8]int{6: 1}},
		{[]int{1, 2, 3, 4, 7, 8}, [8]int{1, 2, 2, 1}}, {[]int{8, 1, 1, 1, 3, 64}, [8]int{3, 1, 0, 1, 0, 0, 1}},
	} {
		a := fresh(t, wide)
		leave(t, a, c.lengths...)
		var got []int
		for _, r := range plan.All(a) {
			got = append(got, r.N)
		}
		if !slices.Equal(got, c.lengths) {
			t.Errorf("runs of %v, not %v", got, c.lengths)
		}
		sizes(t, a, c.want)
	}
	a := fresh(t, wide)
	runs(t, "All", plan.All(a), plan.Run{At: 4, N: 126})
	run(t, "Best of 126", plan.Best(a, 126), plan.Run{At: 4, N: 126})
	run(t, "Best of 127", plan.Best(a, 127), plan.Run{})
	run(t, "Best of 128", plan.Best(a, 128), plan.Run{})
	number(t, "Room of 126", plan.Room(a, 126), 1)
	number(t, "Room of 127", plan.Room(a, 127), 0)
}

// P31.2: nothing free, one run alone, and where the division is cut: what is taken away is.
func TestScore(t *testing.T) {
	for _, c := range []struct {
		lengths []int
		want    int
	}{
		{nil, 0}, {[]int{1}, 0}, {[]int{126}, 0}, {[]int{1, 1}, 500}, {[]int{1, 1, 1}, 667}, {[]int{2, 1}, 334},
		{[]int{1, 5, 1}, 286}, {[]int{1, 1, 1, 1, 1, 1, 1}, 858}, {[]int{3, 1}, 250}, {[]int{100, 1}, 10}, {[]int{1, 111}, 9},
	} {
		a := fresh(t, wide)
		leave(t, a, c.lengths...)
		number(t, "Score", plan.Score(a), c.want)
	}
}

// P31.1 to P31.3: the smallest shape, and the greatest.
func TestShapes(t *testing.T) {
	a := fresh(t, api.Geo{Group: api.MinGroup, Inodes: api.PerTable, Groups: 1})
	runs(t, "All", plan.All(a), plan.Run{At: 4, N: 14})
	sizes(t, a, [8]int{3: 1})
	a = fresh(t, api.Geo{Group: api.MinGroup, Inodes: 44, Groups: 1})
	runs(t, "All", plan.All(a), plan.Run{At: 14, N: 4})
	a = fresh(t, api.Geo{Group: api.MaxGroup, Inodes: api.MaxInodes, Groups: api.MaxGroups})
	var want []plan.Run
	for k := range api.MaxGroups {
		want = append(want, plan.Run{At: 2 + 128*k + 17, N: 111})
	}
	runs(t, "All", plan.All(a), want...)
	sizes(t, a, [8]int{6: 16})
	number(t, "Score", plan.Score(a), 1000-1000/16)
	number(t, "Room", plan.Room(a, 37), 48)
	number(t, "Room", plan.Room(a, 1), 16*111)
	take(t, a, 2+128*15+17, 2+128*15+127)
	run(t, "Best", plan.Best(a, 109), plan.Run{At: 2 + 128*15 + 18, N: 109})
	a = fresh(t, api.Geo{Group: api.MaxGroup, Inodes: api.PerTable, Groups: api.MaxGroups})
	run(t, "Longest", plan.Longest(a), plan.Run{At: 4, N: 126})
	runs(t, "Runs of the last", plan.Runs(a, 15), plan.Run{At: 2 + 128*15 + 2, N: 126})
}

// P31.1, P31.2: groups that a volume gets count, and those that it loses do not any more.
func TestOtherShape(t *testing.T) {
	d, _ := disk.New(geo.Size(example))
	less := api.Geo{Group: 16, Inodes: 8, Groups: 1}
	a := on(t, d, less)
	take(t, a, 10)
	if e := a.Vol().Prepare(example); e != api.OK {
		t.Fatal("Prepare", e)
	}
	number(t, "runs", len(plan.All(a)), 2)
	if e := a.Vol().Switch(example); e != api.OK {
		t.Fatal("Switch", e)
	}
	number(t, "runs", len(plan.All(a)), 4)
	run(t, "Longest", plan.Longest(a), plan.Run{At: 21, N: 13})
	freeze(t, a, 1, true)
	freeze(t, a, 2, true)
	if e := a.Vol().Switch(less); e != api.OK {
		t.Fatal("Switch", e)
	}
	runs(t, "All", plan.All(a), plan.Run{At: 5, N: 5}, plan.Run{At: 11, N: 7})
	runs(t, "Runs of one that went", plan.Runs(a, 1))
}

// P31.3: of a group whose header was written over nothing is free, as alloc tells it.
func TestNoHeader(t *testing.T) {
	a := fresh(t, example)
	if _, e := a.Vol().Store().Patch(18, 0, []byte{1}); e != api.OK {
		t.Fatal("Patch", e)
	}
	runs(t, "Runs", plan.Runs(a, 1))
	runs(t, "All", plan.All(a), plan.Run{At: 5, N: 13}, plan.Run{At: 37, N: 13})
	if blocks, _ := a.Free(); blocks != 26 {
		t.Error("Free", blocks)
	}
	number(t, "Room", plan.Room(a, 1), 26)
}

// Rules 3 and 4: what is asked changes nothing, and what is written into an answer is seen by no later one.
func TestApart(t *testing.T) {
	a := fresh(t, example)
	take(t, a, 9, 24)
	ahead, open := told(a), a.Vol().Store().Open()
	l, m := plan.Runs(a, 0), plan.All(a)
	for i := range m {
		m[i] = plan.Run{At: 1, N: 1}
	}
	for i := range l {
		l[i] = plan.Run{At: 2, N: 2}
	}
	_ = append(l[:1], plan.Run{At: 3, N: 3})
	_ = append(m[:1], plan.Run{At: 3, N: 3})
	s := plan.Sizes(a)
	s[0] = 99
	if told(a) != ahead || a.Vol().Store().Open() != open {
		t.Error("an answer was changed by another one")
	}
}
