package grow_test

import (
	"reflect"
	"slices"
	"strings"
	"testing"

	"levee/api"
	"levee/disk"
	"levee/fs"
	"levee/grow"
	"levee/super"
)

// scene is a volume that gets larger, and what was called ahead of that.
type scene struct {
	name string
	safe func(t *testing.T, f *fs.Fs) // then all is made safe
	open func(t *testing.T, f *fs.Fs) // and this is not
}

// calls holds that calls were made.
func calls(t *testing.T, all ...api.Errno) {
	t.Helper()
	for i, e := range all {
		if e != api.OK {
			t.Fatal("call", i, e)
		}
	}
}

func scenes() []scene {
	nothing := func(*testing.T, *fs.Fs) {}
	tree := func(t *testing.T, f *fs.Fs) {
		t.Helper()
		calls(t, f.Mkdir("/a"), f.Mkdir("/a/b"))
		opened(t, f, "/a/f", strings.Repeat("0123456789abcdef", 120))
		calls(t, f.Symlink("a/f", "/l"), f.Create("/a/b/x"))
	}
	return []scene{
		{"an empty volume", nothing, nothing},
		{"all is safe", tree, nothing},
		{"nothing is safe", nothing, tree},
		{"some is safe", tree, func(t *testing.T, f *fs.Fs) {
			t.Helper()
			calls(t, f.Rename("/a/f", "/g"), f.Truncate(0, 700), f.Unlink("/a/b/x"), f.Mkdir("/a/b/c"))
		}},
	}
}

// begun is a scene's volume, of two groups, that is to have four, so many steps of it done.
func (s scene) begun(t *testing.T, done int) (*disk.Disk, *grow.Grow) {
	t.Helper()
	d, f, g := fresh(t, 2, 4)
	s.safe(t, f)
	syncs(t, g)
	s.open(t, f)
	answers(t, "Begin", g.Begin(4), api.OK)
	for range done {
		steps(t, g, false, api.OK)
	}
	return d, g
}

// crashes are copies of a disk whose power went, with more or less of what was written there.
func crashes(d *disk.Disk) []*disk.Disk {
	many := len(d.Open())
	picks := [][]int{nil, slices.Repeat([]int{99}, many)}
	for i := range many {
		one := make([]int, many)
		one[i] = 99
		rest := slices.Repeat([]int{99}, many)
		rest[i] = 0
		picks = append(picks, one, rest)
	}
	var all []*disk.Disk
	for _, p := range picks {
		c := d.Copy()
		c.Crash(p)
		all = append(all, c)
	}
	return all
}

// written tells whether the new superblock stands on a disk, whole.
func written(d *disk.Disk) bool {
	block, _ := d.Read(0)
	s, e := super.Get(block)
	return e == api.OK && s == super.Super{Gen: 2, Geo: shape(4)}
}

// P23.3 (P3): the power goes at every write and every flush within both steps: the volume has its old shape, or, behind the second one, the new one; if all was safe ahead of it, all is found as it was, and it may get larger anew.
func TestStops(t *testing.T) {
	for _, s := range scenes() {
		for done := range 2 {
			d, g := s.begun(t, done)
			quiet := g.Slots().Mover().Sync().Quiet()
			was := found(t, crashes(d)[0])
			stops := 0
			for ; ; stops++ {
				d, g = s.begun(t, done)
				d.Stop(stops)
				steps(t, g, done == 1, api.OK)
				ended := !d.Stopped()
				for _, c := range crashes(d) {
					s.held(t, c, done == 1 && ended)
					if now := found(t, c); quiet && !reflect.DeepEqual(now, was) {
						t.Errorf("behind a crash there is %v, not %v", now, was)
					}
				}
				if t.Failed() {
					t.Fatalf("%s, step %d, stopped at %d", s.name, done+1, stops)
				}
				if ended {
					break
				}
			}
			if least := []int{7, 2}[done]; stops < least { // the headers and tables of two groups, or a superblock; and a flush
				t.Errorf("%s, step %d: %d writes and flushes", s.name, done+1, stops)
			}
		}
	}
}

// held holds the shape behind a crash, and that it may become the new one, with all that was there.
func (s scene) held(t *testing.T, d *disk.Disk, surely bool) {
	t.Helper()
	g := mounted(t, d)
	groups := volume(g).Geo().Groups
	if groups != 2 && groups != 4 || (groups == 4) != written(d) || surely && groups != 4 {
		t.Errorf("behind a crash there are %d groups", groups)
	}
	if groups == 4 {
		return
	}
	was := found(t, d)
	c := d.Copy()
	g = mounted(t, c)
	enlarged(t, g, 4)
	if now := found(t, c); !reflect.DeepEqual(now, was) || volume(g).Geo() != shape(4) {
		t.Errorf("made larger anew it has %v, not %v", now, was)
	}
}

// P23.3: a superblock that was not written whole is none.
func TestHalfSuper(t *testing.T) {
	d, _, g := fresh(t, 2, 4)
	answers(t, "Begin", g.Begin(4), api.OK)
	steps(t, g, false, api.OK)
	old, _ := d.Safe(0)
	steps(t, g, true, api.OK)
	whole, _ := d.Safe(0)
	for n := range api.Block {
		if n > 0 && slices.Equal(whole[n:], old[n:]) {
			continue
		}
		c := d.Copy()
		c.Write(0, append(slices.Clone(whole[:n]), old[n:]...))
		if g := mounted(t, c); volume(g).Geo() != shape(2) || volume(g).Gen() != 1 {
			t.Errorf("with %d bytes of the new superblock it is %v", n, volume(g).Geo())
		}
	}
	is(t, d, g, 4, 2)
}
