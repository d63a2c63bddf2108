package sys_test

import (
	"bytes"
	"strings"
	"testing"

	"levee/api"
	"levee/defrag"
	"levee/disk"
	"levee/fs"
	"levee/fsck"
	"levee/grow"
	"levee/imove"
	"levee/move"
	"levee/shrink"
	"levee/sync"
	"levee/sys"
	"levee/vol"
)

// hand is a disk, and the layers on it, that are worked by hand.
type hand struct {
	d *disk.Disk
	f *fs.Fs // none, if it is down
	y *sync.Sync
	g *grow.Grow
	s *shrink.Shrink
	k *defrag.Defrag
}

func newHand(t *testing.T, blocks int, g api.Geo) *hand {
	t.Helper()
	d, _ := disk.New(blocks)
	if e := vol.Format(d, g); e != api.OK {
		t.Fatal("Format", e)
	}
	h := &hand{d: d}
	if e := h.mount(); e != api.OK {
		t.Fatal("Mount", e)
	}
	return h
}

func (h *hand) mount() api.Errno {
	f, e := fs.Mount(h.d)
	if e == api.OK {
		h.f, h.y = f, sync.New(f)
		x := imove.New(move.New(h.y))
		h.g, h.s, h.k = grow.New(x), shrink.New(x), defrag.New(x)
	}
	return e
}

func (h *hand) geo() api.Geo {
	if h.f == nil {
		return api.Geo{}
	}
	return h.f.Nodes().Tree().Dirs().Files().Alloc().Vol().Geo()
}

func (h *hand) busy() bool {
	return h.f != nil && (h.g.Target() > 0 || h.s.Target() > 0 || h.k.Busy())
}

// power is what happens to the disk, by the document's table.
func (h *hand) power(e sys.Event) (a sys.Answer) {
	switch e.Kind {
	case sys.Stop:
		h.d.Stop(e.N)
	case sys.Crash:
		h.d.Crash(e.Pick)
		h.f = nil
	case sys.Repair:
		if a.Errno = api.ErrState; h.f == nil {
			r, errno := fsck.Repair(h.d)
			a.N, a.Errno = int64(r.Written), errno
		}
	case sys.Mount:
		if a.Errno = api.ErrState; h.f == nil {
			a.Errno = h.mount()
		}
	}
	return a
}

// do is what happens, by the document's table.
func (h *hand) do(e sys.Event) (a sys.Answer) {
	var n int
	switch {
	case e.Kind < 1 || e.Kind > 29:
		return sys.Answer{Errno: api.ErrArg}
	case e.Kind >= 26:
		return h.power(e)
	case h.f == nil:
		return sys.Answer{Errno: api.ErrState}
	}
	switch e.Kind {
	case 1:
		a.Errno = h.f.Create(e.A)
	case 2:
		a.Errno = h.f.Mkdir(e.A)
	case 3:
		a.Errno = h.f.Symlink(e.B, e.A)
	case 4:
		a.Errno = h.f.Link(e.A, e.B)
	case 5:
		a.Errno = h.f.Unlink(e.A)
	case 6:
		a.Errno = h.f.Rmdir(e.A)
	case 7:
		a.Errno = h.f.Rename(e.A, e.B)
	case 8:
		a.Text, a.Errno = h.f.Readlink(e.A)
	case 9:
		a.Stat, a.Errno = h.f.Stat(e.A, true)
	case 10:
		a.Stat, a.Errno = h.f.Stat(e.A, false)
	case 11:
		a.Items, a.Errno = h.f.Readdir(e.A)
	case 12:
		n, a.Errno = h.f.Open(e.A)
	case 13:
		a.Errno = h.f.Close(e.Fd)
	case 14:
		a.Data, a.Errno = h.f.Read(e.Fd, e.Off, e.N)
	case 15:
		a.Errno = h.f.Write(e.Fd, e.Off, e.Data)
	case 16:
		a.Errno = h.f.Truncate(e.Fd, e.Off)
	case 17:
		a.Stat, a.Errno = h.f.Fstat(e.Fd)
	case 18:
		n, a.Errno = h.y.Fsync(e.Fd)
	case 19:
		n, a.Errno = h.y.Sync()
	case 20:
		n, a.Errno = h.y.Write(e.N)
	case 21:
		n, a.Errno = h.y.Flush()
	case 22:
		if a.Errno = api.ErrBusy; h.s.Target() == 0 {
			a.Errno = h.g.Begin(e.N)
		}
	case 23:
		if a.Errno = api.ErrBusy; h.g.Target() == 0 {
			a.Errno = h.s.Begin(e.N)
		}
	case 24:
		a.Errno = h.k.Begin()
	case 25:
		switch a.Errno = api.ErrState; {
		case h.g.Target() > 0:
			a.Over, a.Errno = h.g.Step()
		case h.s.Target() > 0:
			a.Over, a.Errno = h.s.Step()
		case h.k.Busy():
			a.Over, a.Errno = h.k.Step()
		}
	}
	if a.N = int64(n); a.Errno != api.OK {
		return sys.Answer{Errno: a.Errno, Over: a.Over}
	}
	return a
}

// something is some event of any kind, none too, with all that any kind needs.
func (l *life) something() sys.Event {
	var e sys.Event
	switch l.r.below(3) {
	case 0:
		e = l.names()
	case 1:
		e = l.asks()
	default:
		e = l.bytes()
	}
	if l.r.below(3) == 0 {
		e.Kind = l.r.below(32) - 1
		e.N = l.r.below(80) - 20
	}
	if e.Kind == sys.Grow || e.Kind == sys.Shrink {
		e.N = l.r.below(7) - 1
	}
	if e.Kind == sys.Crash && l.r.below(3) > 0 {
		e.Kind = sys.Step
	}
	e.Pick = l.picks()
	return e
}

// agree holds a machine against one that is worked by hand.
func (l *life) agree(h *hand) {
	l.t.Helper()
	if l.s.Up() != (h.f != nil) || l.s.Geo() != h.geo() || l.s.Busy() != h.busy() {
		l.t.Errorf("up %t, %v, busy %t, not %t, %v, %t", l.s.Up(), l.s.Geo(), l.s.Busy(), h.f != nil, h.geo(), h.busy())
	}
	var want room
	if h.f != nil {
		want.blocks, want.slots = h.f.Free()
	}
	if l.room() != want {
		l.t.Errorf("Free: %v, not %v", l.room(), want)
	}
	if !bytes.Equal(l.s.Image(), h.d.Bytes()) {
		l.t.Error("Image has other bytes than the disk")
	}
}

// P29.1, P29.2: any events, each kind while the machine is up and while it is down, answer as the layers do that are worked by hand, and the disk has the same bytes behind each.
func TestByHand(t *testing.T) {
	r := dice(88675123)
	calls := map[string]int{}
	for run := range 40 {
		g := api.Geo{Group: []int{16, 20, 28}[run%3], Inodes: 8, Groups: 1 + r.below(3)}
		blocks := 2 + g.Group*(g.Groups+r.below(4))
		l, h := newLife(t, &r, blocks, g), newHand(t, blocks, g)
		for step := range 900 {
			e := l.something()
			up := l.s.Up()
			want := h.do(e)
			if a := l.do(e); !same(a, want) {
				t.Errorf("%v: %v, not %v", e, a, want)
			}
			if l.agree(h); t.Failed() {
				t.Fatalf("run %d, step %d:\n%s", run, step, strings.Join(l.log, "\n"))
			}
			if want.Errno == api.OK && up && e.Kind <= sys.Open { // so that paths of what is there are met
				l.tree.answer(e, room{1 << 30, 1 << 30})
			}
			if e.Kind == sys.Crash {
				l.tree = newTree()
			}
		}
		for what, n := range l.calls {
			calls[what] += n
		}
	}
	often(t, calls, 3, "-1 1", "0 1", "30 1", "25 0", "25 6", "25 26", "28 0", "28 6", "29 0", "29 6", "26 0", "27 0")
	for kind := sys.Create; kind <= sys.Mount; kind++ {
		often(t, calls, 3, answered(kind, api.OK))
		if kind != sys.Stop && kind != sys.Crash {
			often(t, calls, 3, answered(kind, api.ErrState))
		}
	}
}
