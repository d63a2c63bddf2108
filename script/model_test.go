package script_test

import (
	"bytes"
	"strings"
	"testing"

	"levee/api"
	"levee/script"
	"levee/sys"
)

// dice gives the same numbers below n in every run.
type dice uint32

func (d *dice) below(n int) int {
	*d ^= *d << 13
	*d ^= *d >> 17
	*d ^= *d << 5
	return int(uint32(*d) % uint32(n))
}

// number is some number, now and then one of the greatest.
func (d *dice) number() int64 {
	switch d.below(12) {
	case 0:
		return []int64{far, -far, far - 1, 1 - far, 1 << 32, -1 << 31, 1 << 53}[d.below(7)]
	case 1:
		return -int64(d.below(1000))
	}
	return int64(d.below(6))
}

// text is some bytes.
func (d *dice) text() string {
	b := make([]byte, d.below(5))
	for i := range b {
		b[i] = byte(d.below(256))
		if d.below(2) == 0 {
			b[i] = "-%a/ 2d\n"[d.below(8)]
		}
	}
	return string(b)
}

// path is some path, mostly of few names.
func (d *dice) path() string {
	if d.below(10) == 0 {
		return d.text()
	}
	var b strings.Builder
	for range 1 + d.below(2) {
		b.WriteString("/" + []string{"a", "b", "c", " ", "%", "-", "\n"}[d.below(7)])
	}
	return b.String()
}

// event is some event of any kind, that has more than it needs.
func (d *dice) event() sys.Event {
	e := sys.Event{Kind: sys.Create + d.below(sys.Mount), A: d.path(), B: d.path(), Fd: int(d.number()), Off: d.number(), N: int(d.number()), Data: []byte(d.text())}
	for range d.below(4) {
		e.Pick = append(e.Pick, int(d.number()))
	}
	return e
}

// needed is what an event needs, by the document's table.
func needed(e sys.Event) sys.Event {
	is := sys.Event{Kind: e.Kind}
	if e.Kind <= sys.Open {
		is.A = e.A
	}
	switch e.Kind {
	case sys.Symlink, sys.Link, sys.Rename:
		is.B = e.B
	case sys.Close, sys.Read, sys.Write, sys.Truncate, sys.Fstat, sys.Fsync:
		is.Fd = e.Fd
	}
	switch e.Kind {
	case sys.Read, sys.Write, sys.Truncate:
		is.Off = e.Off
	}
	switch e.Kind {
	case sys.Read, sys.Back, sys.Grow, sys.Shrink, sys.Stop:
		is.N = e.N
	case sys.Write:
		is.Data = e.Data
	case sys.Crash:
		is.Pick = e.Pick
	}
	return is
}

// P30.4: Unword of Word is the bytes, and Parse of Line the event, without what it does not need.
func TestThereAndBack(t *testing.T) {
	r := dice(2463534242)
	for range 50000 {
		b := r.text() + r.text()
		worded(t, b, script.Word(b))
		if word := script.Word(b); strings.ContainsAny(word, " \n") || word == "" {
			t.Errorf("Word(%q): %q", b, word)
		}
		e := r.event()
		was := e
		line, errno := script.Line(e)
		if errno != api.OK || strings.Contains(line, "\n") || !equal(e, was) {
			t.Errorf("Line(%v): %q, %d", e, line, errno)
		}
		read(t, line, needed(e))
		written(t, needed(e), line)
	}
}

// P30.1, P30.4: of any lines, most of them an event's with something else in it, just those are read that Line writes.
func TestAnyLines(t *testing.T) {
	r := dice(88675123)
	could := 0
	for range 100000 {
		line, _ := script.Line(r.event())
		for range r.below(4) {
			at := r.below(len(line) + 1)
			switch r.below(3) {
			case 0:
				line = line[:at] + r.text() + line[at:]
			case 1:
				line = line[:at] + []string{" ", "0", "-", "%", "1", "%2d", "a"}[r.below(7)] + line[at:]
			default:
				line = line[:at] + line[min(at+1, len(line)):]
			}
		}
		e, errno := script.Parse(line)
		if errno != api.OK {
			none(t, line)
			continue
		}
		could++
		written(t, e, line)
	}
	if could < 10000 {
		t.Errorf("%d lines could be read", could)
	}
}

// lined is some lines, with one among them, if it is bad, that can not be read.
func lined(r *dice, bad bool) string {
	var b strings.Builder
	for range r.below(40) {
		switch r.below(12) {
		case 0:
			b.WriteString("\n")
		case 1:
			b.WriteString("#" + strings.ReplaceAll(r.text(), "\n", "") + "\n")
		default:
			line, _ := script.Line(likely(r))
			b.WriteString(line + "\n")
		}
	}
	if bad {
		b.WriteString("bad\nmkdir /bad\n")
	}
	if r.below(2) == 0 {
		return strings.TrimSuffix(b.String(), "\n")
	}
	return b.String()
}

// likely is some event, mostly one that is done.
func likely(r *dice) sys.Event {
	e := r.event()
	if k := r.below(4); k > 0 {
		e.Kind = []int{sys.Create, sys.Mkdir, sys.Symlink, sys.Readlink, sys.Stat, sys.Lstat, sys.Readdir, sys.Open, sys.Write, sys.Read, sys.Fstat, sys.Sync, sys.Step, sys.Grow, sys.Defrag, sys.Repair, sys.Mount, sys.Repair, sys.Mount}[r.below(19)]
	}
	return e
}

// byHand is what a text answers, line by line.
func byHand(s *sys.Sys, text string) (string, int, api.Errno) {
	out := ""
	all := strings.Split(text, "\n")
	for ahead, line := range all {
		if line == "" || strings.HasPrefix(line, "#") {
			continue
		}
		e, errno := script.Parse(line)
		if errno != api.OK {
			return out, ahead, errno
		}
		out += script.Show(s.Do(e)) + "\n"
	}
	return out, len(all), api.OK
}

// P30.3, P30.5: any texts answer as their lines do, and leave the same bytes; two texts, one behind the other, as the first one and then the second one.
func TestAnyTexts(t *testing.T) {
	r := dice(362436069)
	answered := map[string]int{}
	for run := range 150 {
		one, hand, both := machine(t), machine(t), machine(t)
		for range 8 {
			a, b := lined(&r, run%10 == 1 && r.below(6) == 0), lined(&r, run%10 == 2 && r.below(6) == 0)
			out, n, errno := byHand(hand, a)
			runs(t, one, a, out, n, errno)
			if errno == api.OK {
				rest, more, last := byHand(hand, b)
				runs(t, one, b, rest, more, last)
				out, n, errno = out+rest, n+more, last
			}
			runs(t, both, a+"\n"+b, out, n, errno)
			for _, line := range strings.Split(out, "\n") {
				answered[strings.SplitN(line, " ", 3)[0]]++
			}
			if errno != api.OK {
				answered["bad"]++
			}
		}
		if image := hand.Image(); !bytes.Equal(one.Image(), image) || !bytes.Equal(both.Image(), image) {
			t.Errorf("run %d: other bytes", run)
		}
	}
	for _, what := range []string{"0", "6", "20", "21", "25", "bad"} {
		if answered[what] < 10 {
			t.Errorf("%s: %d times", what, answered[what])
		}
	}
}
