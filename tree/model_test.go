package tree_test

import (
	"slices"
	"strings"
	"testing"

	"levee/api"
	"levee/tree"
)

// dice gives the same numbers below n in every run.
type dice uint32

func (d *dice) below(n int) int {
	*d ^= *d << 13
	*d ^= *d >> 17
	*d ^= *d << 5
	return int(uint32(*d) % uint32(n))
}

// one is a thing by the model.
type one struct {
	kind  int
	names map[string]int // of a directory
	path  string         // of a link
}

// model is things by their slots; the root stands in 1.
type model map[int]*one

// cut is a path's names by the words; false, if it can not be.
func cut(path string) ([]string, bool) {
	var names []string
	name := ""
	for i := 0; i <= len(path); i++ {
		if i < len(path) && path[i] != '/' {
			name += path[i : i+1]
			continue
		}
		if name != "" && name != "." {
			names = append(names, name)
		}
		if len(name) > 24 || strings.Contains(name, "\x00") {
			return nil, false
		}
		name = ""
	}
	return names, len(path) >= 1 && len(path) <= 255 && len(names) <= 16
}

// way is what Walk answers, by a call of itself for each name.
func (m model) way(way []int, names []string, through bool, jumps int) ([]int, api.Errno) {
	if len(names) == 0 {
		return way, api.OK
	}
	last := m[way[len(way)-1]]
	if last.kind != api.Dir {
		return nil, api.ErrNotDir
	}
	if names[0] == ".." {
		if len(way) > 1 {
			way = way[:len(way)-1]
		}
		return m.way(slices.Clone(way), names[1:], through, jumps)
	}
	slot, there := last.names[names[0]]
	if !there {
		return nil, api.ErrNone
	}
	if m[slot].kind != api.Link || len(names) == 1 && !through {
		return m.way(append(slices.Clone(way), slot), names[1:], through, jumps)
	}
	if jumps == 8 {
		return nil, api.ErrLoop
	}
	more, can := cut(m[slot].path)
	if !can {
		return nil, api.ErrName
	}
	if m[slot].path[0] == '/' {
		way = []int{1}
	}
	return m.way(way, append(more, names[1:]...), through, jumps+1)
}

func (m model) walk(path string, through bool) ([]int, api.Errno) {
	names, can := cut(path)
	if !can || path[0] != '/' {
		return nil, api.ErrName
	}
	return m.way([]int{1}, names, through, 0)
}

func (m model) parent(path string) ([]int, string, api.Errno) {
	names, can := cut(path)
	if !can || path[0] != '/' {
		return nil, "", api.ErrName
	}
	if len(names) == 0 || names[len(names)-1] == ".." {
		return nil, "", api.ErrArg
	}
	way, e := m.way([]int{1}, names[:len(names)-1], true, 0)
	if e == api.OK && m[way[len(way)-1]].kind != api.Dir {
		e = api.ErrNotDir
	}
	if e != api.OK {
		return nil, "", e
	}
	return way, names[len(names)-1], api.OK
}

// somePath is one of some parts, that mostly can be.
func somePath(r *dice, root bool) string {
	parts := []string{"a", "b", "c", "d", "e", "a", "b", "c", "d", "e", "..", ".", ""}
	path := ""
	if root {
		path = "/"
	}
	for range r.below(6) {
		path += parts[r.below(len(parts))] + "/"
	}
	path += parts[r.below(len(parts))]
	switch r.below(40) {
	case 0:
		path += "\x00"
	case 1:
		path += "/" + strings.Repeat("x", 24+r.below(2))
	case 2:
		path += strings.Repeat("/a", 10+r.below(8))
	case 3:
		path += strings.Repeat("/", 250+r.below(10)-len(path))
	}
	return path
}

// grown is some tree, and its model.
func grown(t *testing.T, r *dice) (*tree.Tree, model) {
	x, _ := fresh(t, shape)
	m := model{1: {kind: api.Dir, names: map[string]int{}}}
	dirs := []int{1}
	for slot := 2; slot < 30; slot++ {
		in := dirs[r.below(len(dirs))]
		name := string(rune('a' + r.below(5)))
		if _, there := m[in].names[name]; there {
			continue
		}
		m[in].names[name] = slot
		m[slot] = &one{kind: []int{api.File, api.Dir, api.Dir, api.Link, api.Link, api.Link}[r.below(6)], names: map[string]int{}}
		switch m[slot].kind {
		case api.Dir:
			dirs = append(dirs, slot)
			thing(t, x, slot, api.Dir)
		case api.File:
			thing(t, x, slot, api.File)
		default:
			path := somePath(r, r.below(3) == 0)
			path = (path + ".")[:min(len(path)+1, 255)]
			m[slot].path = path
			link(t, x, slot, path)
		}
		add(t, x, in, name, slot)
	}
	return x, m
}

// P17.1 to P17.4: any paths in any trees.
func TestAnyPaths(t *testing.T) {
	r := dice(2463534242)
	met := map[api.Errno]int{}
	for range 50 {
		x, m := grown(t, &r)
		for range 150 {
			path := somePath(&r, r.below(20) > 0)
			for _, through := range []bool{false, true} {
				way, e := x.Walk(path, through)
				want, f := m.walk(path, through)
				if e != f || !slices.Equal(way, want) {
					t.Fatalf("Walk(%q, %v): %v, %d, not %v, %d", path, through, way, e, want, f)
				}
				met[e]++
				same(t, x, path, through, way, e)
			}
			way, last, e := x.Parent(path)
			want, name, f := m.parent(path)
			if e != f || last != name || !slices.Equal(way, want) {
				t.Fatalf("Parent(%q): %v, %q, %d, not %v, %q, %d", path, way, last, e, want, name, f)
			}
			ends(t, x, path, way, last, e)
		}
	}
	for _, e := range []api.Errno{api.OK, api.ErrName, api.ErrNone, api.ErrNotDir, api.ErrLoop} {
		if met[e] < 20 {
			t.Errorf("%d was answered %d times", e, met[e])
		}
	}
}

// same is P17.3: empty parts, "." and a / at the end change nothing.
func same(t *testing.T, x *tree.Tree, path string, through bool, want []int, f api.Errno) {
	t.Helper()
	for _, other := range []string{path + "/", path + "/.", strings.ReplaceAll(path, "/", "//"), strings.ReplaceAll(path, "/", "/./"), "/" + path, "/./" + path} {
		if len(path) == 0 || path[0] != '/' || len(other) > 255 {
			continue
		}
		if way, e := x.Walk(other, through); e != f || !slices.Equal(way, want) {
			t.Errorf("Walk(%q): %v, %d, not %v, %d", other, way, e, want, f)
		}
	}
}

// ends is P17.4: a path's way is that of its Parent, and what its name names there.
func ends(t *testing.T, x *tree.Tree, path string, way []int, last string, e api.Errno) {
	t.Helper()
	if e != api.OK {
		return
	}
	slot, _, e := x.Dirs().Find(way[len(way)-1], last)
	whole, f := x.Walk(path, false)
	if e != f || e == api.OK && !slices.Equal(whole, append(way, slot)) {
		t.Errorf("Walk(%q): %v, %d; Parent: %v, where %q is %d", path, whole, f, way, last, slot)
	}
}
