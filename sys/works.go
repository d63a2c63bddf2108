package sys

import (
	"levee/api"
	"levee/defrag"
	"levee/fs"
	"levee/grow"
	"levee/imove"
	"levee/move"
	"levee/shrink"
	"levee/sync"
	"levee/vol"
)

// works is what a machine that is up works with. All of it goes with the power: what was under way, and what was open, is so no more.
type works struct {
	fs     *fs.Fs
	sync   *sync.Sync
	grow   *grow.Grow
	shrink *shrink.Shrink
	defrag *defrag.Defrag
}

func newWorks(f *fs.Fs) *works {
	safe := sync.New(f)
	slots := imove.New(move.New(safe))
	return &works{fs: f, sync: safe, grow: grow.New(slots), shrink: shrink.New(slots), defrag: defrag.New(slots)}
}

// volume answers what is mounted.
func (w *works) volume() *vol.Vol {
	return w.fs.Nodes().Tree().Dirs().Files().Alloc().Vol()
}

func (w *works) growing() bool {
	return w.grow.Target() > 0
}

func (w *works) shrinking() bool {
	return w.shrink.Target() > 0
}

func (w *works) underWay() bool {
	return w.growing() || w.shrinking() || w.defrag.Busy()
}

// work does what needs a file system that is mounted.
func (w *works) work(e Event) Answer {
	switch {
	case e.Kind <= Rename:
		return Answer{Errno: w.name(e)}
	case e.Kind <= Readdir:
		return w.tell(e)
	case e.Kind <= Fstat:
		return w.open(e)
	case e.Kind <= Flush:
		return w.save(e)
	}
	return w.shape(e)
}

// name changes names.
func (w *works) name(e Event) api.Errno {
	switch e.Kind {
	case Create:
		return w.fs.Create(e.A)
	case Mkdir:
		return w.fs.Mkdir(e.A)
	case Symlink:
		return w.fs.Symlink(e.B, e.A)
	case Link:
		return w.fs.Link(e.A, e.B)
	case Unlink:
		return w.fs.Unlink(e.A)
	case Rmdir:
		return w.fs.Rmdir(e.A)
	}
	return w.fs.Rename(e.A, e.B)
}

// tell tells of what a path names.
func (w *works) tell(e Event) Answer {
	var a Answer
	switch e.Kind {
	case Readlink:
		a.Text, a.Errno = w.fs.Readlink(e.A)
	case Stat, Lstat:
		a.Stat, a.Errno = w.fs.Stat(e.A, e.Kind == Stat)
	case Readdir:
		a.Items, a.Errno = w.fs.Readdir(e.A)
	}
	return a
}

// open is what happens to what is open, or comes to be.
func (w *works) open(e Event) Answer {
	var a Answer
	switch e.Kind {
	case Open:
		fd, errno := w.fs.Open(e.A)
		a.N, a.Errno = int64(fd), errno
	case Close:
		a.Errno = w.fs.Close(e.Fd)
	case Read:
		a.Data, a.Errno = w.fs.Read(e.Fd, e.Off, e.N)
	case Write:
		a.Errno = w.fs.Write(e.Fd, e.Off, e.Data)
	case Truncate:
		a.Errno = w.fs.Truncate(e.Fd, e.Off)
	case Fstat:
		a.Stat, a.Errno = w.fs.Fstat(e.Fd)
	}
	return a
}

// save writes to the disk what is not safe.
func (w *works) save(e Event) Answer {
	var n int
	var errno api.Errno
	switch e.Kind {
	case Fsync:
		n, errno = w.sync.Fsync(e.Fd)
	case Sync:
		n, errno = w.sync.Sync()
	case Back:
		n, errno = w.sync.Write(e.N)
	case Flush:
		n, errno = w.sync.Flush()
	}
	return Answer{Errno: errno, N: int64(n)}
}

// shape lets the volume get larger or smaller, or be put in order.
func (w *works) shape(e Event) Answer {
	var a Answer
	switch e.Kind {
	case Grow:
		a.Errno = w.larger(e.N)
	case Shrink:
		a.Errno = w.smaller(e.N)
	case Defrag:
		a.Errno = w.defrag.Begin()
	case Step:
		a.Over, a.Errno = w.step()
	}
	return a
}

// larger begins to make the volume larger. Not while it gets smaller: what is larger ahead of the other one's last step would lose its groups by it.
func (w *works) larger(groups int) api.Errno {
	if w.shrinking() {
		return api.ErrBusy
	}
	return w.grow.Begin(groups)
}

func (w *works) smaller(groups int) api.Errno {
	if w.growing() {
		return api.ErrBusy
	}
	return w.shrink.Begin(groups)
}

// step goes on with what is under way; of several with what changes the shape.
func (w *works) step() (bool, api.Errno) {
	switch {
	case w.growing():
		return w.grow.Step()
	case w.shrinking():
		return w.shrink.Step()
	}
	return w.defrag.Step()
}
