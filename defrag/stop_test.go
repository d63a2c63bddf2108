package defrag_test

import (
	"fmt"
	"reflect"
	"slices"
	"strings"
	"testing"

	"levee/api"
	"levee/defrag"
	"levee/disk"
	"levee/fs"
	"levee/geo"
	"levee/vol"
)

// scene is a volume whose things are put in order, and what was called ahead of that.
type scene struct {
	name string
	safe func(t *testing.T, f *fs.Fs)      // ahead of a Sync
	open func(f *fs.Fs) []func() api.Errno // behind it
	took int                               // how many steps move something, at least
}

const text = "0123456789abcdef"

// mixed makes two files, open by 0 and 1, whose blocks stand one between the other's, one of them with holes.
func mixed(t *testing.T, f *fs.Fs) {
	t.Helper()
	opened(t, f, "/f")
	opened(t, f, "/g")
	for n := range 8 {
		calls(t, f.Write(0, int64(n)*api.Block, []byte(strings.Repeat(text, 16))), f.Write(1, int64(3*n)*api.Block, []byte(text)))
	}
}

// scenes are the edges that the chapter names.
func scenes() []scene {
	return []scene{
		{name: "nothing is to be moved", safe: func(t *testing.T, f *fs.Fs) { opened(t, f, "/f") }},
		{name: "two files", safe: mixed, took: 2},
		{name: "a file with blocks of names in two steps", safe: func(t *testing.T, f *fs.Fs) {
			opened(t, f, "/deep")
			for _, n := range []int{199, 198, 134, 71, 70, 7, 6, 0} {
				calls(t, f.Write(0, int64(n)*api.Block, []byte(text)))
			}
		}, took: 1},
		{name: "directories, and what they name", safe: func(t *testing.T, f *fs.Fs) {
			calls(t, f.Mkdir("/a"), f.Create("/a/x"))
			for n := range 20 {
				calls(t, f.Link("/a/x", fmt.Sprint("/a/", n)), f.Link("/a/x", fmt.Sprint("/", n)))
			}
		}, took: 2},
		{name: "an open thing without a name", safe: mixed, open: func(f *fs.Fs) []func() api.Errno {
			return []func() api.Errno{func() api.Errno { return f.Unlink("/f") }}
		}, took: 2},
		{name: "bytes that are not safe", safe: mixed, open: func(f *fs.Fs) []func() api.Errno {
			return []func() api.Errno{
				func() api.Errno { return f.Truncate(0, 700) },
				func() api.Errno { return f.Write(0, 650, []byte(strings.Repeat("z", 1300))) },
				func() api.Errno { return f.Write(1, 9*api.Block, []byte("more")) },
				func() api.Errno { return f.Truncate(0, 1800) },
			}
		}, took: 2},
		{name: "names that are not safe", safe: func(t *testing.T, f *fs.Fs) {
			calls(t, f.Mkdir("/a"), f.Create("/a/x"), f.Mkdir("/b"))
			for n := range 10 {
				calls(t, f.Link("/a/x", fmt.Sprint("/a/", n)), f.Link("/a/x", fmt.Sprint("/", n)))
			}
		}, open: func(f *fs.Fs) []func() api.Errno {
			return []func() api.Errno{
				func() api.Errno { return f.Rename("/a/x", "/b/y") },
				func() api.Errno { return f.Unlink("/a/9") },
				func() api.Errno { return f.Rename("/a", "/b/c") },
				func() api.Errno { return f.Rename("/3", "/b/c/4") },
				func() api.Errno { return f.Create("/z") },
			}
		}, took: 2},
		{name: "nothing is safe", open: func(f *fs.Fs) []func() api.Errno {
			return []func() api.Errno{
				func() api.Errno { return f.Create("/f") },
				func() api.Errno { _, e := f.Open("/f"); return e },
				func() api.Errno { return f.Write(0, 5*api.Block, []byte(text)) },
				func() api.Errno { return f.Write(0, 3*api.Block, []byte(text)) },
				func() api.Errno { return f.Write(0, 8*api.Block, []byte(text)) },
			}
		}, took: 1},
	}
}

// begun is a scene's volume on which all that there was then is gone through.
func (c scene) begun(t *testing.T) (*machine, *defrag.Defrag) {
	t.Helper()
	r := dice(77)
	m := newMachine(t, &r, geo.Size(shape(4)), shape(4))
	k := defrag.New(m.x)
	if c.safe != nil {
		c.safe(t, m.fs())
	}
	syncs(t, k)
	m.now = m.look()
	m.safe()
	if c.open != nil {
		for _, call := range c.open(m.fs()) {
			calls(t, call())
			m.watch()
		}
	}
	answers(t, "Begin", k.Begin(), api.OK)
	return m, k
}

// ends does all steps.
func ends(t *testing.T, k *defrag.Defrag) int {
	t.Helper()
	took := 0
	for n := len(mover(k).Things()); n > 0; n-- {
		open := volume(k).Store().Open()
		steps(t, k, n == 1, api.OK)
		if volume(k).Store().Open() > open {
			took++
		}
	}
	return took
}

// crashes are copies of a disk whose power went, with more or less of what was written there.
func crashes(d *disk.Disk) []*disk.Disk {
	many := len(d.Open())
	picks := [][]int{nil, slices.Repeat([]int{99}, many)}
	for i := range many {
		one := make([]int, many)
		one[i] = 99
		rest := slices.Repeat([]int{99}, many)
		rest[i] = 0
		picks = append(picks, one, rest)
	}
	var all []*disk.Disk
	for _, p := range picks {
		c := d.Copy()
		c.Crash(p)
		all = append(all, c)
	}
	return all
}

// P25.4, P25.5: each scene is over behind as many steps as there are things, and nothing that is told is another one.
func TestScenes(t *testing.T) {
	for _, c := range scenes() {
		m, k := c.begun(t)
		was := told(t, m.x)
		bytes := m.d.Bytes()
		if took := ends(t, k); took != c.took {
			t.Errorf("%s: %d steps moved something", c.name, took)
		}
		if string(m.d.Bytes()) != string(bytes) || len(m.d.Open()) != 0 {
			t.Errorf("%s: something was written", c.name)
		}
		if told(t, m.x) != was {
			t.Errorf("%s: it tells another tree", c.name)
		}
		m.whole()
		if t.Failed() {
			t.Fatal(c.name)
		}
	}
}

// P25.4 (P2, P3): the power goes at every write and every flush by which a volume that was put in order is made safe: what is found was so once, and if all was safe ahead of it, all is found as it was.
func TestStops(t *testing.T) {
	for _, c := range scenes() {
		m, _ := c.begun(t)
		was := found(t, m.d.Copy())
		for stop := 0; ; stop++ {
			m, k := c.begun(t)
			ends(t, k)
			m.d.Stop(stop)
			if stop%2 == 0 {
				mover(k).Sync().Sync()
			} else {
				m.scattered()
			}
			ended := !m.d.Stopped()
			for _, d := range crashes(m.d) {
				if v, e := vol.Mount(d); e != api.OK || v.Geo() != shape(4) {
					t.Errorf("behind a crash it is %v, %d", v.Geo(), e)
				}
				m.held(d)
				if now := found(t, d); c.open == nil && !reflect.DeepEqual(now, was) {
					t.Errorf("behind a crash there is %v, not %v", now, was)
				}
			}
			if t.Failed() {
				t.Fatalf("%s, stopped at %d", c.name, stop)
			}
			if ended && stop%2 == 0 {
				break
			}
		}
	}
}

// scattered writes blocks in any order, many between two flushes.
func (m *machine) scattered() {
	for range 12 {
		for range 25 {
			m.sync().Write(m.r.below(50))
		}
		m.sync().Flush()
	}
}
