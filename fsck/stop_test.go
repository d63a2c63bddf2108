package fsck_test

import (
	"bytes"
	"reflect"
	"slices"
	"strings"
	"testing"

	"levee/api"
	"levee/disk"
	"levee/fs"
	"levee/fsck"
	"levee/geo"
)

// shape is that of most volumes here: a group has 24 blocks, of which 3 are no data, and 8 slots.
func shape(groups int) api.Geo {
	return api.Geo{Group: 24, Inodes: 8, Groups: groups}
}

const text = "0123456789abcdef"

// scene is a volume of two groups, on a disk with room for four, and what is done while the power goes.
type scene struct {
	name string
	safe func(t *testing.T, m *machine) // ahead of a Sync
	open func(f *fs.Fs) []func() api.Errno
	acts func(t *testing.T, m *machine) // at the last all is made safe
	same bool                           // nothing is changed but where what stands
}

// opened makes a file with some bytes, and opens it.
func opened(t *testing.T, f *fs.Fs, path string, n int) int {
	t.Helper()
	calls(t, f.Create(path))
	fd, e := f.Open(path)
	calls(t, e, f.Write(fd, 0, []byte(strings.Repeat(text, n))))
	return fd
}

// planted makes a small tree: a directory a with a file of two thousand bytes, open by 0, and a directory b in it; a directory c, and a link.
func planted(t *testing.T, m *machine) {
	t.Helper()
	f := m.fs()
	calls(t, f.Mkdir("/a"), f.Mkdir("/a/b"))
	opened(t, f, "/a/f", 125)
	calls(t, f.Symlink("a/f", "/l"), f.Create("/a/b/x"), f.Mkdir("/c"))
}

// manyNames is planted, and the file has names in all directories.
func manyNames(t *testing.T, m *machine) {
	t.Helper()
	planted(t, m)
	f := m.fs()
	for _, path := range []string{"/f", "/c/g", "/a/b/g", "/a/g", "/z"} {
		calls(t, f.Link("/a/f", path))
	}
}

// slot is where a path's thing stands.
func (m *machine) slot(t *testing.T, path string) int {
	t.Helper()
	way, e := m.fs().Nodes().Tree().Walk(path, false)
	calls(t, e)
	return way[len(way)-1]
}

// moved moves a path's thing to another slot.
func (m *machine) moved(t *testing.T, path string, near int) {
	t.Helper()
	_, e := m.x.Move(m.slot(t, path), near)
	calls(t, e)
}

// renames are calls by which names go elsewhere.
func renames(pairs ...string) func(f *fs.Fs) []func() api.Errno {
	return func(f *fs.Fs) []func() api.Errno {
		var all []func() api.Errno
		for i := 0; i < len(pairs); i += 2 {
			all = append(all, func() api.Errno { return f.Rename(pairs[i], pairs[i+1]) })
		}
		return all
	}
}

func scenes() []scene {
	return []scene{
		{name: "new things", safe: planted, open: func(f *fs.Fs) []func() api.Errno {
			return []func() api.Errno{
				func() api.Errno { return f.Mkdir("/a/new") },
				func() api.Errno { return f.Create("/a/new/x") },
				func() api.Errno { return f.Symlink("x", "/a/new/l") },
				func() api.Errno { return f.Link("/a/new/x", "/y") },
			}
		}},
		{name: "things that go", safe: planted, open: func(f *fs.Fs) []func() api.Errno {
			return []func() api.Errno{
				func() api.Errno { return f.Unlink("/a/f") },
				func() api.Errno { return f.Unlink("/l") },
				func() api.Errno { return f.Unlink("/a/b/x") },
				func() api.Errno { return f.Rmdir("/a/b") },
				func() api.Errno { return f.Close(0) },
				func() api.Errno { return f.Create("/new") },
			}
		}},
		{name: "bytes", safe: planted, open: func(f *fs.Fs) []func() api.Errno {
			return []func() api.Errno{
				func() api.Errno { return f.Truncate(0, 700) },
				func() api.Errno { return f.Write(0, 650, []byte(strings.Repeat("z", 1300))) },
				func() api.Errno { return f.Truncate(0, 100) },
				func() api.Errno { return f.Write(0, 18000, []byte(text)) },
				func() api.Errno { return f.Truncate(0, 1800) },
			}
		}},
		{name: "a file's name", safe: planted, open: renames("/a/f", "/c/f", "/c/f", "/g")},
		{name: "a file's name in the place of another one", safe: planted, open: renames("/a/f", "/a/b/x", "/l", "/a/b/x")},
		{name: "a directory's name", safe: planted, open: renames("/a", "/d")},
		{name: "a directory that goes into another one", safe: planted, open: renames("/a/b", "/c/b", "/a", "/c/b/a")},
		{name: "a directory that goes out of another one", safe: planted, open: renames("/a/b", "/b", "/a", "/b/a", "/c", "/b/a/c")},
		{name: "a directory in the place of another one", safe: planted, open: renames("/a/b", "/c", "/c", "/a/b")},
		{name: "a file with many names that is moved", safe: manyNames, acts: func(t *testing.T, m *machine) {
			m.moved(t, "/f", 9)
		}, same: true},
		{name: "things that are moved while names go elsewhere", safe: planted, open: renames("/a", "/c/a", "/c/a/f", "/f"), acts: func(t *testing.T, m *machine) {
			m.moved(t, "/c/a", 9)
			m.moved(t, "/c", 9)
			m.moved(t, "/f", 9)
		}},
		{name: "a volume that gets larger", safe: manyNames, acts: func(t *testing.T, m *machine) {
			calls(t, m.g.Begin(3))
			for range 2 {
				_, e := m.sizes()
				calls(t, e)
			}
		}, same: true},
		{name: "a volume that gets smaller", safe: func(t *testing.T, m *machine) {
			manyNames(t, m)
			for _, path := range []string{"/f", "/a", "/c"} {
				m.moved(t, path, 9)
			}
			own, _ := m.files().Owned(m.slot(t, "/f"))
			for _, b := range own[:2] {
				_, e := m.x.Mover().Block(b, 40)
				calls(t, e)
			}
		}, acts: func(t *testing.T, m *machine) {
			calls(t, m.s.Begin(1))
			for m.s.Target() > 0 {
				_, e := m.sizes()
				calls(t, e)
			}
		}, same: true},
		{name: "files that are put in order", safe: func(t *testing.T, m *machine) {
			manyNames(t, m)
			opened(t, m.fs(), "/a/h", 1)
			for n := range int64(5) {
				calls(t, m.fs().Write(0, 2000+n*256, []byte(text)), m.fs().Write(1, n*256, []byte(text)))
			}
		}, acts: func(t *testing.T, m *machine) {
			calls(t, m.k.Begin())
			for m.k.Busy() {
				_, e := m.k.Step()
				calls(t, e)
			}
		}, same: true},
	}
}

// begun is a scene's volume, all of which is safe but for its calls.
func (c scene) begun(t *testing.T) *machine {
	t.Helper()
	r := dice(77)
	m := newMachine(t, &r, geo.Size(shape(4)), shape(2))
	c.safe(t, m)
	_, e := m.sync().Sync()
	calls(t, e)
	m.now = look(m.x)
	m.safe()
	if c.open != nil {
		for _, call := range c.open(m.fs()) {
			calls(t, call())
			m.watch()
		}
	}
	return m
}

// ends does the rest of a scene: in the end all is safe.
func (c scene) ends(t *testing.T, m *machine) {
	t.Helper()
	if c.acts != nil {
		c.acts(t, m)
	}
	_, e := m.sync().Sync()
	calls(t, e)
}

// picks are some of what may be kept of blocks that have one write: none, all, each one alone, all but one.
func picks(many int) [][]int {
	all := [][]int{nil, slices.Repeat([]int{1}, many)}
	for i := range many {
		one := make([]int, many)
		one[i] = 1
		rest := slices.Repeat([]int{1}, many)
		rest[i] = 0
		all = append(all, one, rest)
	}
	return all
}

// cut puts a disk right, with the power going at each write and flush of that, and any of what was written kept, and holds that it comes to the same; it answers how often it did so.
func cut(t *testing.T, d *disk.Disk) int {
	t.Helper()
	must := d.Copy()
	repairs(t, must)
	for stop := 0; ; stop++ {
		half := d.Copy()
		half.Stop(stop)
		_, e := fsck.Repair(half)
		answers(t, "Repair", e, api.OK)
		ended := !half.Stopped()
		for _, pick := range picks(len(half.Open())) {
			c := half.Copy()
			c.Crash(pick)
			_, e := fsck.Repair(c)
			if e != api.OK || !bytes.Equal(c.Bytes(), must.Bytes()) {
				t.Errorf("stopped at %d, with %v: Repair comes to another volume, %d", stop, pick, e)
			}
		}
		if ended {
			return stop
		}
	}
}

// P28.4, P28.5 (P2, P3): the power goes at every write and every flush while something is done, and again at every write and flush of Repair, with any of what was written kept: what is found was so once, and where nothing was changed but what stands where, all is found.
func TestStops(t *testing.T) {
	for _, c := range scenes() {
		m := c.begun(t)
		was := m.now
		cuts := 0
		for stop := 0; ; stop++ {
			m := c.begun(t)
			m.d.Stop(stop)
			c.ends(t, m)
			ended := !m.d.Stopped()
			for _, pick := range picks(len(m.d.Open())) {
				d := m.d.Copy()
				d.Crash(pick)
				cuts += cut(t, d)
				repairs(t, d)
				m.formed(d)
				m.held(d)
				if now := found(t, d); c.same && !reflect.DeepEqual(now, was) {
					t.Errorf("%v is found, not %v", now, was)
				}
			}
			if t.Failed() {
				t.Fatalf("%s, stopped at %d", c.name, stop)
			}
			if ended {
				break
			}
		}
		if cuts < 10 {
			t.Errorf("%s: %d writes and flushes of Repair", c.name, cuts)
		}
	}
}
