package sys_test

import (
	"bytes"
	"fmt"
	"strings"
	"testing"

	"levee/api"
	"levee/sys"
)

// path is some path, mostly of few names, so that much is met again.
func (l *life) path() string {
	var b strings.Builder
	for range 1 + l.r.below(3) {
		b.WriteString("/")
		b.WriteString([]string{"a", "b", "c", "d", "e", "f", "aa", "B", "\xff", "..", ".", ""}[l.r.below(12)])
	}
	return b.String()
}

// there is the path of something, mostly.
func (l *life) there() string {
	if len(l.tree.lines) == 0 || l.r.below(5) == 0 {
		return l.path()
	}
	n := l.tree.lines[l.r.below(len(l.tree.lines))]
	return l.tree.path(n.in) + n.name
}

// fresh is some path in a directory that is there, mostly.
func (l *life) fresh() string {
	path := l.there()
	return path[:strings.LastIndex(path, "/")+1] + string(rune('a'+l.r.below(14)))
}

// some is a path of one of the sorts, now and then one that can not be.
func (l *life) some() string {
	switch l.r.below(30) {
	case 0:
		return []string{"", "/", "a", "/..", "/a\x00", "/" + strings.Repeat("n", 25), "/" + strings.Repeat("a/", 17), strings.Repeat("/", 256)}[l.r.below(8)]
	case 1, 2, 3:
		return l.fresh() + "/" + string(rune('a'+l.r.below(4)))
	}
	return []string{l.path(), l.there(), l.fresh()}[l.r.below(3)]
}

// names is some event that names are for.
func (l *life) names() sys.Event {
	kinds := []int{sys.Create, sys.Create, sys.Create, sys.Mkdir, sys.Mkdir, sys.Symlink, sys.Link, sys.Unlink, sys.Rmdir, sys.Rename, sys.Rename, sys.Rename}
	e := sys.Event{Kind: kinds[l.r.below(len(kinds))], A: l.there(), B: l.some()}
	switch e.Kind {
	case sys.Create, sys.Mkdir:
		e.A = l.fresh()
	case sys.Symlink:
		e.A, e.B = l.some(), e.A
		if l.r.below(3) == 0 {
			e.B = ".." + e.B
		}
	}
	return e
}

// asks is some event that a path is for.
func (l *life) asks() sys.Event {
	kinds := []int{sys.Readlink, sys.Stat, sys.Lstat, sys.Readdir, sys.Open, sys.Open}
	return sys.Event{Kind: kinds[l.r.below(len(kinds))], A: []string{l.there(), l.some()}[l.r.below(2)]}
}

// fd is a number by which something is open, mostly.
func (l *life) fd() int {
	if l.r.below(20) == 0 {
		return []int{-1, 7, 8, 1 << 62, -1 << 62}[l.r.below(5)]
	}
	var open []int
	for fd, of := range l.tree.open {
		if of != nil {
			open = append(open, fd)
		}
	}
	if len(open) == 0 || l.r.below(10) == 0 {
		return l.r.below(8)
	}
	return open[l.r.below(len(open))]
}

// bytes is some event that what is open is for.
func (l *life) bytes() sys.Event {
	kinds := []int{sys.Close, sys.Read, sys.Read, sys.Write, sys.Write, sys.Write, sys.Write, sys.Truncate, sys.Fstat}
	e := sys.Event{Kind: kinds[l.r.below(len(kinds))], Fd: l.fd()}
	e.Off = int64([]int{0, 1, 255, 256, 700, 1535, 1536, 2000, 17900, -1, 4166 * 256, 1 << 62}[l.r.below(12)])
	e.N = []int{0, 1, 2, 255, 256, 257, 900, 4096, 4097, -1}[l.r.below(10)]
	if e.Kind == sys.Write {
		e.Data = bytes.Repeat([]byte{byte(1 + l.r.below(255))}, max(e.N, 0)/(1+l.r.below(3)))
	}
	return e
}

// happens is something that happens to a machine that is up.
func (l *life) happens() {
	l.t.Helper()
	switch k := l.r.below(200); {
	case k < 70:
		l.tells(l.names())
	case k < 95:
		l.tells(l.asks())
	case k < 130:
		l.tells(l.bytes())
	case k < 165:
		l.saves()
	case k < 173:
		l.begin()
	case k < 192:
		l.step()
	case k < 193:
		l.answers(sys.Event{Kind: sys.Repair + l.r.below(2)}, api.ErrState)
	case k < 195:
		l.answers(sys.Event{Kind: sys.Stop, N: l.r.below(40) - 2}, api.OK)
		l.ending, l.torn = true, l.ending
	case k < 197:
		l.all()
	default:
		if l.r.below(2) == 0 {
			l.crash()
		}
	}
	l.busy()
}

// P29.3 (P1, P2): in any life of a machine, with crashes, repairs and mounts between, while the volume gets larger or smaller and is put in order, each call answers what a tree in a list does, that began with what was found when it was mounted; and what is found was so once.
func TestAnyLife(t *testing.T) {
	r := dice(2463534242)
	calls := map[string]int{}
	for run := range 60 {
		g := api.Geo{Group: []int{16, 20, 28, 64}[run%4], Inodes: []int{8, 12, 16}[r.below(3)], Groups: 1 + r.below(3)}
		l := newLife(t, &r, 2+g.Group*(g.Groups+r.below(4))+r.below(16), g)
		for step := range 900 {
			l.happens()
			if t.Failed() {
				t.Fatalf("run %d, step %d:\n%s", run, step, strings.Join(l.log, "\n"))
			}
		}
		for what, n := range l.calls {
			calls[what] += n
		}
	}
	often(t, calls, 3,
		"1 0", "1 20", "1 21", "1 23", "1 26", "2 0", "2 21", "2 26", "3 0", "3 25", "3 26", "4 0", "4 21", "4 22", "5 0", "5 20", "5 22", "6 0", "6 23", "6 24",
		"7 0", "7 1", "7 20", "7 22", "7 23", "7 24", "7 26", "7 29", "8 0", "8 1", "9 0", "10 0", "10 20", "11 0", "11 23", "12 0", "12 22", "12 27", "13 0", "13 30",
		"14 0", "14 3", "14 30", "15 0", "15 3", "15 26", "15 28", "15 30", "16 0", "16 3", "16 28", "16 30", "17 0", "17 30", "18 0", "18 30", "19 0", "20 0", "20 20", "21 0",
		"22 0", "22 1", "22 4", "22 6", "22 32", "23 0", "23 1", "23 6", "23 32", "24 0", "24 6", "25 0", "25 6", "25 26", "26 0", "27 0", "28 0", "28 6", "29 0", "29 6")
}

// answered is a kind and what was answered, as they are counted.
func answered(kind int, e api.Errno) string {
	return fmt.Sprint(kind, " ", e)
}

// often holds that there were so many events of kinds, with these answers.
func often(t *testing.T, calls map[string]int, least int, some ...string) {
	t.Helper()
	for _, what := range some {
		if calls[what] < least {
			t.Errorf("%s: %d times", what, calls[what])
		}
	}
}
