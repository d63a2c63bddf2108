package sys_test

import (
	"bytes"
	"fmt"
	"maps"
	"reflect"
	"slices"
	"strings"
	"testing"

	"levee/api"
	"levee/check"
	"levee/disk"
	"levee/sys"
)

// dice gives the same numbers below n in every run.
type dice uint32

func (d *dice) below(n int) int {
	*d ^= *d << 13
	*d ^= *d >> 17
	*d ^= *d << 5
	return int(uint32(*d) % uint32(n))
}

// past is what a thing was, since it was made safe last.
type past struct {
	kind  int
	said  []string
	bytes [][]byte
}

func (p *past) add(said string, b []byte) {
	if !slices.Contains(p.said, said) {
		p.said = append(p.said, said)
	}
	if n := len(p.bytes); n == 0 || !bytes.Equal(p.bytes[n-1], b) {
		p.bytes = append(p.bytes, slices.Clone(b))
	}
}

// holds tells whether a byte once stood there, or is 0 where there was none.
func (p *past) holds(at int, b byte) bool {
	return slices.ContainsFunc(p.bytes, func(was []byte) bool {
		return at < len(was) && was[at] == b || at >= len(was) && b == 0
	})
}

// life is a machine, the tree that it must answer as, and what all was since it was safe.
type life struct {
	t      *testing.T
	r      *dice
	s      *sys.Sys
	blocks int
	tree   *tree
	past   map[int64]*past
	keeps  map[int64]bool // what has had a name ever since all was safe
	shapes []api.Geo      // those of which one is found behind a crash
	ending bool           // a Stop holds: nothing surely comes to be safe
	torn   bool           // another one came behind it: what was written between is lost, and what is written now may not be
	holes  bool           // it was torn once: directories may have holes, of which no list tells
	grow   int            // how many steps are left
	shrink bool
	defrag int
	calls  map[string]int
	log    []string
}

func newLife(t *testing.T, r *dice, blocks int, g api.Geo) *life {
	t.Helper()
	s, e := sys.New(blocks, g)
	if e != api.OK {
		t.Fatal("New", e)
	}
	l := &life{t: t, r: r, s: s, blocks: blocks, tree: newTree(), calls: map[string]int{}}
	l.begins()
	return l
}

// begins is a machine that is up since now: all is safe.
func (l *life) begins() {
	l.safe()
	l.shapes = []api.Geo{l.s.Geo()}
	l.ending, l.torn, l.grow, l.shrink, l.defrag = false, false, 0, false, 0
}

// safe is a Sync: what was ahead of it does not come again.
func (l *life) safe() {
	l.past, l.keeps = map[int64]*past{}, l.have()
	l.watch()
}

// have are the numbers of all things that have names.
func (l *life) have() map[int64]bool {
	some := map[int64]bool{l.tree.root.id: true}
	for _, n := range l.tree.lines {
		some[n.of.id] = true
	}
	return some
}

// watch remembers what all things are.
func (l *life) watch() {
	for _, of := range l.tree.things() {
		if l.past[of.id] == nil {
			l.past[of.id] = &past{kind: of.kind}
		}
		l.past[of.id].add(l.tree.said(of), of.bytes)
	}
	still := l.have()
	maps.DeleteFunc(l.keeps, func(id int64, _ bool) bool { return !still[id] })
}

// room is what is free.
func (l *life) room() room {
	b, s := l.s.Free()
	return room{b, s}
}

// do lets something happen to the machine, and remembers it.
func (l *life) do(e sys.Event) sys.Answer {
	a := l.s.Do(e)
	l.calls[answered(e.Kind, a.Errno)]++
	l.log = append(l.log, fmt.Sprintf("%d %q %q %d %d %d, %d bytes, %v: %v", e.Kind, e.A, e.B, e.Fd, e.Off, e.N, len(e.Data), e.Pick, a))
	return a
}

// same tells whether two answers are; of an empty list it is no matter whether it is nil.
func same(a, b sys.Answer) bool {
	if !bytes.Equal(a.Data, b.Data) || !slices.Equal(a.Items, b.Items) {
		return false
	}
	a.Data, a.Items, b.Data, b.Items = nil, nil, nil, nil
	return reflect.DeepEqual(a, b)
}

// tells lets a call happen that the tree answers too.
func (l *life) tells(e sys.Event) {
	l.t.Helper()
	was := slices.Clone(l.tree.lines)
	want := l.tree.answer(e, l.room())
	a := l.do(e)
	if l.holes && a.Stat.Kind == api.Dir {
		want.Stat.Size = a.Stat.Size
	}
	if !same(a, want) {
		l.t.Errorf("%v: %v, not %v", e, a, want)
	}
	if e.Kind == sys.Rename && want.Errno == api.OK {
		l.both(was)
	}
	l.watch()
}

// both is the time between a name's coming and the old one's going: of a rename in one directory, it had both.
func (l *life) both(was []line) {
	for _, of := range l.tree.things() {
		lines := l.tree.within(of)
		for _, n := range was {
			if n.in == of && l.tree.find(of, n.name) == nil {
				lines = append(lines, n)
			}
		}
		slices.SortFunc(lines, func(a, b line) int { return strings.Compare(a.name, b.name) })
		if of.kind == api.Dir {
			l.past[of.id].add(said(lines), nil)
		}
	}
}

// answers holds the error of something that the tree knows nothing of.
func (l *life) answers(e sys.Event, want api.Errno) sys.Answer {
	l.t.Helper()
	was, up, free := l.tree.next, l.s.Up(), l.room()
	a := l.do(e)
	if a.Errno != want {
		l.t.Errorf("%v: %v, not %d", e, a, want)
	}
	if want == api.ErrState && (l.s.Up() != up || l.room() != free || l.tree.next != was) {
		l.t.Errorf("%v was refused, and changed something", e)
	}
	return a
}

// saves makes safe what is asked.
func (l *life) saves() {
	l.t.Helper()
	switch k := l.r.below(100); {
	case k < 55:
		e := sys.Event{Kind: sys.Back, N: l.r.below(60) - 20}
		if a := l.do(e); a.Errno != api.OK && a.Errno != api.ErrNone || a.N >= int64(l.blocks) {
			l.t.Errorf("%v: %v", e, a)
		}
	case k < 75:
		l.answers(sys.Event{Kind: sys.Flush}, api.OK)
	case k < 92:
		e := sys.Event{Kind: sys.Fsync, Fd: l.fd()}
		of, want := l.tree.opened(e.Fd), api.OK
		if of == nil {
			want = api.ErrFd
		}
		l.answers(e, want)
		if of != nil && !l.ending {
			l.past[of.id] = &past{kind: of.kind}
			l.watch()
		}
	default:
		l.answers(sys.Event{Kind: sys.Sync}, api.OK)
		if !l.ending {
			l.safe()
		}
	}
}

// begin begins to make the volume larger or smaller, or to put it in order.
func (l *life) begin() {
	l.t.Helper()
	g, want := l.s.Geo(), api.OK
	e := sys.Event{Kind: sys.Grow + l.r.below(3), N: l.r.below(7) - 1}
	size := 2 + g.Group*e.N
	switch e.Kind {
	case sys.Grow:
		switch {
		case l.shrink:
			want = api.ErrBusy
		case l.grow > 0:
			want = api.ErrState
		case e.N <= g.Groups:
			want = api.ErrArg
		case size > l.blocks:
			want = api.ErrSize
		default:
			l.grow = 2
		}
	case sys.Shrink:
		switch {
		case l.grow > 0:
			want = api.ErrBusy
		case l.shrink:
			want = api.ErrState
		case e.N < 1 || e.N >= g.Groups:
			want = api.ErrArg
		default:
			l.shrink = true
		}
	case sys.Defrag:
		if want = api.ErrState; l.defrag == 0 {
			want, l.defrag = api.OK, len(l.tree.things())
		}
	}
	l.answers(e, want)
}

// step goes on with what is under way.
func (l *life) step() {
	l.t.Helper()
	g, free := l.s.Geo(), l.room()
	e := sys.Event{Kind: sys.Step}
	switch {
	case l.grow > 0:
		l.grow--
		a := l.answers(e, api.OK)
		l.over(a, l.grow == 0)
		if now := l.room(); a.Over && (now.slots <= free.slots || l.s.Geo().Groups <= g.Groups) {
			l.t.Errorf("larger: %v, %v, not more than %v, %v", l.s.Geo(), now, g, free)
		}
	case l.shrink:
		a := l.do(e)
		l.shrink = !a.Over
		if a.Errno != api.OK && (a.Errno != api.ErrSpace || !a.Over) || l.s.Geo().Groups < g.Groups != (a.Over && a.Errno == api.OK) {
			l.t.Errorf("smaller: %v, %v behind %v", a, l.s.Geo(), g)
		}
		if a.Over && a.Errno == api.OK && !l.ending {
			l.safe()
		}
	case l.defrag > 0:
		l.defrag--
		l.over(l.answers(e, api.OK), l.defrag == 0)
	default:
		l.over(l.answers(e, api.ErrState), false)
	}
	if !l.ending {
		l.shapes = nil
	}
	if now := l.s.Geo(); !slices.Contains(l.shapes, now) {
		l.shapes = append(l.shapes, now)
	}
}

// over holds whether something was over with a step.
func (l *life) over(a sys.Answer, want bool) {
	l.t.Helper()
	if a.Over != want {
		l.t.Errorf("Step: %v, not over %t", a, want)
	}
}

// busy holds what is told of what is under way.
func (l *life) busy() {
	l.t.Helper()
	if want := l.grow > 0 || l.shrink || l.defrag > 0; l.s.Busy() != want {
		l.t.Errorf("Busy: not %t", want)
	}
}

// picks are any numbers of writes that are kept.
func (l *life) picks() []int {
	most := []int{1, 2, 4, 100}[l.r.below(4)]
	picks := make([]int, l.r.below(l.blocks+1))
	for i := range picks {
		picks[i] = l.r.below(most+1) - 1
	}
	return picks
}

// crash lets the power go, the volume be put right, the power going in that, too, and the machine be up again.
func (l *life) crash() {
	l.t.Helper()
	l.answers(sys.Event{Kind: sys.Crash, Pick: l.picks()}, api.OK)
	for range l.r.below(3) {
		l.down()
		l.answers(sys.Event{Kind: sys.Stop, N: l.r.below(9)}, api.OK)
		l.answers(sys.Event{Kind: sys.Repair}, api.OK)
		l.answers(sys.Event{Kind: sys.Crash, Pick: l.picks()}, api.OK)
	}
	l.answers(sys.Event{Kind: sys.Repair}, api.OK)
	if a := l.answers(sys.Event{Kind: sys.Repair}, api.OK); a.N != 0 {
		l.t.Errorf("Repair again: %v", a)
	}
	l.down()
	d, _ := disk.Load(l.s.Image())
	if _, e := check.Whole(d); e != api.OK {
		l.t.Errorf("Whole: %d", e)
	}
	l.answers(sys.Event{Kind: sys.Mount}, api.OK)
	if !slices.Contains(l.shapes, l.s.Geo()) {
		l.t.Errorf("behind a crash the shape is %v, not one of %v", l.s.Geo(), l.shapes)
	}
	l.tree = l.found()
	if l.holes = l.holes || l.torn; !l.torn {
		l.held()
	}
	l.begins()
}

// down holds what a machine answers that is down.
func (l *life) down() {
	l.t.Helper()
	for range 3 {
		l.answers(sys.Event{Kind: sys.Create + l.r.below(sys.Step)}, api.ErrState)
	}
	if l.s.Up() || l.s.Busy() || l.s.Geo() != (api.Geo{}) || l.room() != (room{}) {
		l.t.Error("it is not down")
	}
}

// found is the tree that a machine tells of, when it is mounted.
func (l *life) found() *tree {
	m := newTree()
	m.root.id = l.s.Do(sys.Event{Kind: sys.Stat, A: "/"}).Stat.Id
	m.next = m.root.id + 1
	met := map[int64]*thing{m.root.id: m.root}
	left := []*thing{m.root}
	for ; len(left) > 0; left = left[1:] {
		in := left[0]
		path := m.path(in)
		in.size = l.s.Do(sys.Event{Kind: sys.Stat, A: path}).Stat.Size
		for _, i := range l.s.Do(sys.Event{Kind: sys.Readdir, A: path}).Items {
			of := met[i.Id]
			if of == nil {
				of = l.seen(path + i.Name)
				met[i.Id] = of
				m.next = max(m.next, i.Id+1)
				if of.kind == api.Dir {
					left = append(left, of)
				}
			}
			m.lines = append(m.lines, line{in, i.Name, of})
		}
	}
	return m
}

// seen is what a path names; of a directory not its size.
func (l *life) seen(path string) *thing {
	s := l.s.Do(sys.Event{Kind: sys.Lstat, A: path}).Stat
	of := &thing{id: s.Id, kind: s.Kind}
	switch s.Kind {
	case api.Link:
		of.bytes = []byte(l.s.Do(sys.Event{Kind: sys.Readlink, A: path}).Text)
	case api.File:
		fd := int(l.s.Do(sys.Event{Kind: sys.Open, A: path}).N)
		for int64(len(of.bytes)) < s.Size {
			b := l.s.Do(sys.Event{Kind: sys.Read, Fd: fd, Off: int64(len(of.bytes)), N: api.MaxIO}).Data
			if len(b) == 0 {
				l.t.Fatalf("%q ends at %d, not %d", path, len(of.bytes), s.Size)
			}
			of.bytes = append(of.bytes, b...)
		}
		l.s.Do(sys.Event{Kind: sys.Close, Fd: fd})
	}
	return of
}

// held is P2: what is found was so once, and nothing is lost that has had a name all the time.
func (l *life) held() {
	l.t.Helper()
	for _, of := range l.tree.things() {
		p := l.past[of.id]
		if p == nil || p.kind != of.kind || !slices.Contains(p.said, l.tree.said(of)) {
			l.t.Errorf("behind a crash %d, of the kind %d, has %q: it was %v", of.id, of.kind, l.tree.said(of), p)
			continue
		}
		for at, b := range of.bytes {
			if !p.holds(at, b) {
				l.t.Errorf("behind a crash the byte %d of %d is %x", at, of.id, b)
				break
			}
		}
	}
	still := l.have()
	for id := range l.keeps {
		if !still[id] {
			l.t.Errorf("behind a crash %d is lost", id)
		}
	}
}

// all holds all that there is.
func (l *life) all() {
	l.t.Helper()
	for _, n := range l.tree.lines {
		path := l.tree.path(n.in)
		l.tells(sys.Event{Kind: sys.Readdir, A: path})
		l.tells(sys.Event{Kind: sys.Lstat, A: path + n.name})
	}
	for fd, of := range l.tree.open {
		if of == nil {
			continue
		}
		for off := 0; off <= len(of.bytes); off += api.MaxIO {
			l.tells(sys.Event{Kind: sys.Read, Fd: fd, Off: int64(off), N: api.MaxIO})
		}
	}
}
