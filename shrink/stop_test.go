package shrink_test

import (
	"reflect"
	"slices"
	"strings"
	"testing"

	"levee/api"
	"levee/disk"
	"levee/fs"
	"levee/geo"
	"levee/shrink"
	"levee/super"
	"levee/vol"
)

// scene is a volume of three groups that gets smaller, and what was called ahead of that.
type scene struct {
	name   string
	tree   bool                                 // there is a small tree
	safe   func(t *testing.T, f *fs.Fs)         // and more
	goes   func(t *testing.T, s *shrink.Shrink) // what is sent to the groups that go; then all is made safe
	open   func(f *fs.Fs) []func() api.Errno    // what is called behind that
	again  func(t *testing.T, s *shrink.Shrink) // what is sent there then
	blocks int                                  // to be moved
	slots  int
	to     int // how many groups stay
}

func calls(t *testing.T, all ...api.Errno) {
	t.Helper()
	for i, e := range all {
		if e != api.OK {
			t.Fatal("call", i, e)
		}
	}
}

const text = "0123456789abcdef"

// planted makes a small tree: a file of two thousand bytes, open by 0, in a directory with another one, and a link.
func planted(t *testing.T, f *fs.Fs) {
	t.Helper()
	calls(t, f.Mkdir("/a"), f.Mkdir("/a/b"))
	opened(t, f, "/a/f", strings.Repeat(text, 125))
	calls(t, f.Symlink("a/f", "/l"), f.Create("/a/b/x"))
}

// sends lets things be sent to the last group.
func sends(withSlot bool, paths ...string) func(t *testing.T, s *shrink.Shrink) {
	return func(t *testing.T, s *shrink.Shrink) {
		t.Helper()
		for _, path := range paths {
			sent(t, s, path, volume(s).Geo().Groups-1, withSlot)
		}
	}
}

// scenes are the edges that the chapter names.
func scenes() []scene {
	return []scene{
		{name: "nothing is to be moved", blocks: 0, slots: 0, to: 1},
		{name: "a block of bytes", tree: true, goes: sends(false, "/l"), blocks: 1, slots: 0, to: 2},
		{name: "a block of names", tree: true, goes: func(t *testing.T, s *shrink.Shrink) {
			i, _ := files(s).Get(slot(t, s, "/a/f"))
			if to, e := mover(s).Block(i.In, block(1, 7)); e != api.OK || to != block(1, 8) {
				t.Fatal("Block", i.In, to, e)
			}
		}, blocks: 1, slots: 0, to: 1},
		{name: "all blocks of a file", tree: true, goes: sends(false, "/a/f"), blocks: 9, slots: 0, to: 2},
		{name: "blocks of names in two steps", tree: true, safe: func(t *testing.T, f *fs.Fs) {
			opened(t, f, "/deep", "deep")
			calls(t, f.Write(1, (api.Direct+api.Ptrs+70)*api.Block, []byte(text)))
		}, goes: sends(true, "/deep"), blocks: 4, slots: 1, to: 2},
		{name: "a file", tree: true, goes: sends(true, "/a/f"), blocks: 9, slots: 1, to: 1},
		{name: "the root's block", tree: true, goes: sends(false, "/"), blocks: 1, slots: 0, to: 1},
		{name: "a directory, and what is below it", tree: true, goes: sends(true, "/a", "/a/b", "/a/f", "/a/b/x"), blocks: 11, slots: 4, to: 1},
		{name: "a link", tree: true, goes: sends(true, "/l"), blocks: 1, slots: 1, to: 2},
		{name: "many names", tree: true, safe: func(t *testing.T, f *fs.Fs) {
			calls(t, f.Link("/a/f", "/g"), f.Link("/a/f", "/a/b/g"), f.Link("/a/f", "/a/g"))
		}, goes: sends(true, "/a/b/g"), blocks: 9, slots: 1, to: 2},
		{name: "an open thing without a name", tree: true, goes: sends(true, "/a/f"), open: func(f *fs.Fs) []func() api.Errno {
			return []func() api.Errno{func() api.Errno { return f.Unlink("/a/f") }}
		}, blocks: 9, slots: 1, to: 2},
		{name: "an open thing that safely has no name", tree: true, safe: func(t *testing.T, f *fs.Fs) {
			calls(t, f.Unlink("/a/f"))
		}, goes: func(t *testing.T, s *shrink.Shrink) {
			at, e := system(s).Nodes().Slot(0)
			calls(t, e)
			own, _ := files(s).Owned(at)
			for _, b := range own {
				_, e := mover(s).Block(b, block(2, 3))
				calls(t, e)
			}
			_, e = s.Slots().Move(at, slotOf(2, 3))
			calls(t, e)
		}, blocks: 9, slots: 1, to: 2},
		{name: "names that are not safe", tree: true, goes: sends(true, "/a", "/a/f"), open: func(f *fs.Fs) []func() api.Errno {
			return []func() api.Errno{
				func() api.Errno { return f.Mkdir("/d") },
				func() api.Errno { return f.Rename("/a/f", "/d/g") },
				func() api.Errno { return f.Rename("/a", "/d/e") },
				func() api.Errno { return f.Link("/d/g", "/d/e/h") },
				func() api.Errno { return f.Unlink("/d/e/b/x") },
			}
		}, blocks: 10, slots: 2, to: 2},
		{name: "bytes that are not safe", tree: true, goes: sends(true, "/a/f"), open: func(f *fs.Fs) []func() api.Errno {
			return []func() api.Errno{
				func() api.Errno { return f.Truncate(0, 700) },
				func() api.Errno { return f.Write(0, 650, []byte(strings.Repeat("z", 1300))) },
				func() api.Errno { return f.Truncate(0, 1800) },
			}
		}, blocks: 9, slots: 1, to: 2},
		{name: "moved, and that is not safe", tree: true, again: sends(false, "/a/f", "/a", "/"), blocks: 11, slots: 0, to: 2},
	}
}

// begun is a scene's volume that is to get smaller, so many steps of it done.
func (c scene) begun(t *testing.T, done int) (*machine, *shrink.Shrink) {
	t.Helper()
	r := dice(77)
	m := newMachine(t, &r, geo.Size(shape(3)), shape(3))
	s := shrink.New(m.x)
	if c.tree {
		planted(t, m.fs())
	}
	if c.safe != nil {
		c.safe(t, m.fs())
	}
	if c.goes != nil {
		c.goes(t, s)
	}
	syncs(t, s)
	m.now = m.look()
	m.safe()
	if c.open != nil {
		for _, call := range c.open(m.fs()) {
			calls(t, call())
			m.watch()
		}
	}
	if c.again != nil {
		c.again(t, s)
	}
	begins(t, s, c.to)
	for range done {
		steps(t, s, false, api.OK)
	}
	return m, s
}

// crashes are copies of a disk whose power went, with more or less of what was written there.
func crashes(d *disk.Disk) []*disk.Disk {
	many := len(d.Open())
	picks := [][]int{nil, slices.Repeat([]int{99}, many)}
	for i := range many {
		one := make([]int, many)
		one[i] = 99
		rest := slices.Repeat([]int{99}, many)
		rest[i] = 0
		picks = append(picks, one, rest)
	}
	var all []*disk.Disk
	for _, p := range picks {
		c := d.Copy()
		c.Crash(p)
		all = append(all, c)
	}
	return all
}

// written tells whether the superblock of a smaller volume stands on a disk, whole.
func written(d *disk.Disk, to int) bool {
	block, _ := d.Read(0)
	x, e := super.Get(block)
	return e == api.OK && x == super.Super{Gen: 2, Geo: shape(to)}
}

// P24.4: each scene is over behind as many steps as there are to be moved, and one; what is told is as it was.
func TestScenes(t *testing.T) {
	for _, c := range scenes() {
		m, s := c.begun(t, 0)
		left(t, s, c.blocks, c.slots)
		was := tells(t, s)
		for range c.blocks + c.slots {
			steps(t, s, false, api.OK)
			if now := tells(t, s); now != was {
				t.Errorf("it tells\n%s\nnot\n%s", now, was)
			}
		}
		is(t, m.d, s, 3, 1)
		steps(t, s, true, api.OK)
		is(t, m.d, s, c.to, 2)
		frozen(t, s)
		if now := tells(t, s); now != was {
			t.Errorf("it tells\n%s\nnot\n%s", now, was)
		}
		m.shaped()
		m.whole()
		if t.Failed() {
			t.Fatal(c.name)
		}
	}
}

// P24.5 (P2, P3): the power goes at every write and every flush within every step: the volume has its old shape, or, behind the last one, the new one. What is found was so once; if all was safe ahead of it, all is found as it was.
func TestStops(t *testing.T) {
	for _, c := range scenes() {
		all := 0
		for done := range c.blocks + c.slots + 1 {
			last := done == c.blocks+c.slots
			m, _ := c.begun(t, done)
			was := found(t, crashes(m.d)[0])
			for stop := 0; ; stop++ {
				m, s := c.begun(t, done)
				m.d.Stop(stop)
				steps(t, s, last, api.OK)
				ended := !m.d.Stopped()
				for _, d := range crashes(m.d) {
					v, e := vol.Mount(d)
					groups := v.Geo().Groups
					if e != api.OK || groups != 3 && groups != c.to || (groups == c.to) != written(d, c.to) || last && ended && groups != c.to {
						t.Errorf("behind a crash there are %d groups, %d", groups, e)
					}
					m.held(d)
					if now := found(t, d); c.open == nil && !reflect.DeepEqual(now, was) {
						t.Errorf("behind a crash there is %v, not %v", now, was)
					}
				}
				if t.Failed() {
					t.Fatalf("%s, step %d, stopped at %d", c.name, done+1, stop)
				}
				if ended {
					break
				}
				all++
			}
		}
		if least := 2 + 6*c.slots; all < least { // a superblock; of each slot three changes at least; each written and flushed
			t.Errorf("%s: %d writes and flushes", c.name, all)
		}
	}
}

// P24.5: a superblock that was not written whole is none: the old shape holds, with all that is there.
func TestHalfSuper(t *testing.T) {
	d, f, s := fresh(t, 3)
	planted(t, f)
	sent(t, s, "/a/f", 2, true)
	begins(t, s, 2)
	for range 10 {
		steps(t, s, false, api.OK)
	}
	syncs(t, s)
	old, _ := d.Safe(0)
	was := found(t, d.Copy())
	steps(t, s, true, api.OK)
	whole, _ := d.Safe(0)
	for n := range api.Block {
		if n > 0 && slices.Equal(whole[n:], old[n:]) {
			continue
		}
		c := d.Copy()
		c.Write(0, append(slices.Clone(whole[:n]), old[n:]...))
		if v, e := vol.Mount(c); e != api.OK || v.Geo() != shape(3) || v.Gen() != 1 || !reflect.DeepEqual(found(t, c), was) {
			t.Errorf("with %d bytes of the new superblock it is %v, %d", n, v.Geo(), e)
		}
	}
	is(t, d, s, 2, 2)
}
