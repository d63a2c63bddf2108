package geo_test

import (
	"math"
	"testing"

	"levee/api"
	"levee/geo"
)

// example is the chapter's.
var example = api.Geo{Group: 16, Inodes: 8, Groups: 2}

// far are numbers that no block, slot, group or place has.
var far = []int{math.MinInt, math.MinInt + 1, math.MinInt + 2, -4096, -17, -2, -1, 4096, 4097, math.MaxInt32, math.MaxInt - 1, math.MaxInt}

// wrong are shapes that can not be, each by one number.
var wrong = []api.Geo{
	{},
	{Group: 15, Inodes: 4, Groups: 1},
	{Group: 129, Inodes: 4, Groups: 1},
	{Group: 0, Inodes: 4, Groups: 1},
	{Group: -16, Inodes: 4, Groups: 1},
	{Group: math.MaxInt, Inodes: 4, Groups: 1},
	{Group: math.MinInt, Inodes: 4, Groups: 1},
	{Group: 64, Inodes: 0, Groups: 1},
	{Group: 64, Inodes: 3, Groups: 1},
	{Group: 64, Inodes: 5, Groups: 1},
	{Group: 64, Inodes: 6, Groups: 1},
	{Group: 64, Inodes: 63, Groups: 1},
	{Group: 64, Inodes: 65, Groups: 1},
	{Group: 64, Inodes: 68, Groups: 1},
	{Group: 64, Inodes: -4, Groups: 1},
	{Group: 64, Inodes: math.MaxInt - 3, Groups: 1},
	{Group: 64, Inodes: math.MinInt, Groups: 1},
	{Group: 64, Inodes: 8, Groups: 0},
	{Group: 64, Inodes: 8, Groups: 17},
	{Group: 64, Inodes: 8, Groups: -1},
	{Group: 64, Inodes: 8, Groups: math.MaxInt},
	{Group: 64, Inodes: 8, Groups: math.MinInt},
	{Group: 16, Inodes: 48, Groups: 1},
	{Group: 20, Inodes: 64, Groups: 1},
}

// shapes calls f with every shape that can be and has so many groups.
func shapes(groups int, f func(api.Geo)) {
	for group := 16; group <= 128; group++ {
		for tables := 1; tables <= 16; tables++ {
			if group-1-tables >= 4 {
				f(api.Geo{Group: group, Inodes: 4 * tables, Groups: groups})
			}
		}
	}
}

func TestRight(t *testing.T) {
	for _, g := range wrong {
		if geo.Right(g) {
			t.Errorf("Right(%v)", g)
		}
	}
	can := map[api.Geo]int{}
	for groups := 1; groups <= 16; groups++ {
		shapes(groups, func(g api.Geo) { can[g] = 1 })
	}
	for group := -2; group <= 140; group++ {
		for inodes := -5; inodes <= 72; inodes++ {
			for groups := -1; groups <= 18; groups++ {
				g := api.Geo{Group: group, Inodes: inodes, Groups: groups}
				if geo.Right(g) != (can[g] == 1) {
					t.Fatalf("Right(%v) is %v", g, geo.Right(g))
				}
			}
		}
	}
}

// P3.1: sizes, heads and ranges.
func TestSizes(t *testing.T) {
	for groups := 1; groups <= 16; groups++ {
		shapes(groups, func(g api.Geo) {
			if geo.Size(g) != 2+g.Groups*g.Group || geo.Slots(g) != g.Groups*g.Inodes || geo.Tables(g) != g.Inodes/4 {
				t.Fatalf("%v: Size %d, Slots %d, Tables %d", g, geo.Size(g), geo.Slots(g), geo.Tables(g))
			}
			for k := -2; k < g.Groups+2; k++ {
				head, from, to, want := 2+k*g.Group, 0, 0, api.OK
				from, to = head+1+g.Inodes/4, head+g.Group
				if k < 0 || k >= g.Groups {
					head, from, to, want = 0, 0, 0, api.ErrRange
				}
				if h, e := geo.Head(g, k); h != head || e != want {
					t.Fatalf("Head(%v, %d) = %d, %d", g, k, h, e)
				}
				if a, b := geo.Range(g, k); a != from || b != to {
					t.Fatalf("Range(%v, %d) = %d, %d", g, k, a, b)
				}
			}
		})
	}
}

func TestExample(t *testing.T) {
	if geo.Size(example) != 34 || geo.Slots(example) != 16 {
		t.Error("Size, Slots", geo.Size(example), geo.Slots(example))
	}
	if h, e := geo.Head(example, 1); h != 18 || e != api.OK {
		t.Error("Head", h, e)
	}
	if b, p, e := geo.Place(example, 9); b != 19 || p != 1 || e != api.OK {
		t.Error("Place", b, p, e)
	}
	if from, to := geo.Range(example, 0); from != 5 || to != 18 {
		t.Error("Range", from, to)
	}
}

// is is what a block is by the chapter's words.
type is struct{ kind, group, slot int }

// laid lists all blocks of a volume from the first on; slot is that of a table block's place 0.
func laid(g api.Geo) []is {
	all := []is{{geo.Super, -1, -1}, {geo.Super, -1, -1}}
	slot := 0
	for k := range g.Groups {
		all = append(all, is{geo.Header, k, -1})
		for range g.Inodes / 4 {
			all = append(all, is{geo.Table, k, slot})
			slot += 4
		}
		for range g.Group - 1 - g.Inodes/4 {
			all = append(all, is{geo.Data, k, -1})
		}
	}
	return all
}

// checkBlock holds Kind, Slot, Place and Of of one block against what was laid there.
func checkBlock(t *testing.T, g api.Geo, b int, want is) {
	if kind, k := geo.Kind(g, b); kind != want.kind || k != want.group {
		t.Fatalf("Kind(%v, %d) = %d, %d, not %v", g, b, kind, k, want)
	}
	for place := range 4 {
		slot, e := geo.Slot(g, b, place)
		if want.kind != geo.Table {
			if slot != 0 || e != api.ErrRange {
				t.Fatalf("Slot(%v, %d, %d) = %d, %d", g, b, place, slot, e)
			}
			continue
		}
		if slot != want.slot+place || e != api.OK {
			t.Fatalf("Slot(%v, %d, %d) = %d, %d", g, b, place, slot, e)
		}
		if b2, p2, e := geo.Place(g, slot); b2 != b || p2 != place || e != api.OK {
			t.Fatalf("Place(%v, %d) = %d, %d, %d", g, slot, b2, p2, e)
		}
		if k := geo.Of(g, slot); k != want.group {
			t.Fatalf("Of(%v, %d) = %d", g, slot, k)
		}
	}
}

// P3.2, P3.4, P3.5: every block of a volume is of the kind that stands there; tables and slots go both ways.
func TestBlocks(t *testing.T) {
	for _, groups := range []int{1, 2, 3, 16} {
		shapes(groups, func(g api.Geo) {
			all := laid(g)
			if len(all) != geo.Size(g) {
				t.Fatalf("Size(%v) is %d, not %d", g, geo.Size(g), len(all))
			}
			for b, want := range all {
				checkBlock(t, g, b, want)
			}
		})
	}
}

// P3.5: as many of each kind as the shape says.
func TestKindsCounted(t *testing.T) {
	shapes(5, func(g api.Geo) {
		var n [5]int
		for b := range api.MaxBlocks {
			kind, _ := geo.Kind(g, b)
			n[kind]++
		}
		tables := 5 * geo.Tables(g)
		want := [5]int{api.MaxBlocks - geo.Size(g), 2, 5, tables, 5*g.Group - 5 - tables}
		if n != want {
			t.Fatalf("%v: %v blocks of each kind, not %v", g, n, want)
		}
	})
}

func TestKindsAreNumbered(t *testing.T) {
	if [5]int{geo.Out, geo.Super, geo.Header, geo.Table, geo.Data} != [5]int{0, 1, 2, 3, 4} {
		t.Error("kinds")
	}
}

// P3.2: no such block, slot, group or place.
func TestFar(t *testing.T) {
	greatest := api.Geo{Group: 128, Inodes: 64, Groups: 16}
	for _, g := range []api.Geo{example, greatest} {
		for _, n := range append([]int{geo.Size(g), geo.Size(g) + 1}, far...) {
			if kind, k := geo.Kind(g, n); kind != geo.Out || k != -1 {
				t.Errorf("Kind(%v, %d) = %d, %d", g, n, kind, k)
			}
			if s, e := geo.Slot(g, n, 0); s != 0 || e != api.ErrRange {
				t.Errorf("Slot(%v, %d, 0) = %d, %d", g, n, s, e)
			}
		}
		for _, n := range append([]int{geo.Slots(g), geo.Slots(g) + 1}, far...) {
			if b, p, e := geo.Place(g, n); b != 0 || p != 0 || e != api.ErrRange {
				t.Errorf("Place(%v, %d) = %d, %d, %d", g, n, b, p, e)
			}
			if k := geo.Of(g, n); k != -1 {
				t.Errorf("Of(%v, %d) = %d", g, n, k)
			}
		}
		for _, n := range append([]int{4, 5}, far...) {
			if s, e := geo.Slot(g, 3, n); s != 0 || e != api.ErrRange {
				t.Errorf("Slot(%v, 3, %d) = %d, %d", g, n, s, e)
			}
		}
		for _, n := range far {
			if h, e := geo.Head(g, n); h != 0 || e != api.ErrRange {
				t.Errorf("Head(%v, %d) = %d, %d", g, n, h, e)
			}
			if from, to := geo.Range(g, n); from != 0 || to != 0 {
				t.Errorf("Range(%v, %d) = %d, %d", g, n, from, to)
			}
		}
	}
}

// The promises' heading: of a shape that can not be ErrArg, whatever else is wrong; 0; -1 of Of; Out and -1 of Kind.
func TestWrongShapes(t *testing.T) {
	for _, g := range wrong {
		if geo.Size(g) != 0 || geo.Slots(g) != 0 || geo.Tables(g) != 0 {
			t.Errorf("%v: Size %d, Slots %d, Tables %d", g, geo.Size(g), geo.Slots(g), geo.Tables(g))
		}
		for _, n := range append([]int{0, 1, 2, 3, 4, 20}, far...) {
			if h, e := geo.Head(g, n); h != 0 || e != api.ErrArg {
				t.Errorf("Head(%v, %d) = %d, %d", g, n, h, e)
			}
			if b, p, e := geo.Place(g, n); b != 0 || p != 0 || e != api.ErrArg {
				t.Errorf("Place(%v, %d) = %d, %d, %d", g, n, b, p, e)
			}
			if s, e := geo.Slot(g, n, n); s != 0 || e != api.ErrArg {
				t.Errorf("Slot(%v, %d, %d) = %d, %d", g, n, n, s, e)
			}
			if kind, k := geo.Kind(g, n); kind != geo.Out || k != -1 {
				t.Errorf("Kind(%v, %d) = %d, %d", g, n, kind, k)
			}
			if k := geo.Of(g, n); k != -1 {
				t.Errorf("Of(%v, %d) = %d", g, n, k)
			}
			if from, to := geo.Range(g, n); from != 0 || to != 0 {
				t.Errorf("Range(%v, %d) = %d, %d", g, n, from, to)
			}
		}
	}
}

// P3.3: the most groups, whatever g's own number of them is.
func TestFit(t *testing.T) {
	shapes(1, func(g api.Geo) {
		for _, groups := range []int{1, 0, -1, 99, math.MaxInt, math.MinInt} {
			g.Groups = groups
			for _, blocks := range []int{2, 17, 18, 33, 34, 49, 50, 129, 130, 257, 258, 1000, 2049, 2050, 4096} {
				want := api.Geo{Group: g.Group, Inodes: g.Inodes, Groups: min(16, (blocks-2)/g.Group)}
				e := api.OK
				if want.Groups == 0 {
					want, e = api.Geo{}, api.ErrArg
				}
				if got, ge := geo.Fit(g, blocks); got != want || ge != e {
					t.Fatalf("Fit(%v, %d) = %v, %d, not %v, %d", g, blocks, got, ge, want, e)
				}
			}
		}
	})
}

func TestFitEdges(t *testing.T) {
	most := api.Geo{Group: 16, Inodes: 8, Groups: 16}
	for _, blocks := range []int{258, 259, math.MaxInt32, math.MaxInt - 1, math.MaxInt} {
		if g, e := geo.Fit(example, blocks); g != most || e != api.OK {
			t.Errorf("Fit(%d) = %v, %d", blocks, g, e)
		}
	}
	for _, blocks := range []int{17, 16, 2, 1, 0, -1, math.MinInt + 1, math.MinInt} {
		if g, e := geo.Fit(example, blocks); g != (api.Geo{}) || e != api.ErrArg {
			t.Errorf("Fit(%d) = %v, %d", blocks, g, e)
		}
	}
	for _, g := range wrong {
		one := g
		one.Groups = 1
		if geo.Right(one) {
			continue
		}
		for _, blocks := range []int{math.MinInt, 0, 100, 4096, math.MaxInt} {
			if got, e := geo.Fit(g, blocks); got != (api.Geo{}) || e != api.ErrArg {
				t.Errorf("Fit(%v, %d) = %v, %d", g, blocks, got, e)
			}
		}
	}
}
