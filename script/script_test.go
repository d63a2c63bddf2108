package script_test

import (
	"bytes"
	"fmt"
	"math"
	"reflect"
	"slices"
	"strings"
	"testing"

	"levee/api"
	"levee/script"
	"levee/sys"
)

const far = 1 << 62

// machine is one with a new volume of two groups, on a disk with room for three.
func machine(t *testing.T) *sys.Sys {
	t.Helper()
	s, e := sys.New(74, api.Geo{Group: 24, Inodes: 8, Groups: 2})
	if e != api.OK {
		t.Fatal("New", e)
	}
	return s
}

// refused holds that a word is none.
func refused(t *testing.T, word string) {
	t.Helper()
	if b, e := script.Unword(word); b != "" || e != api.ErrForm {
		t.Errorf("Unword(%q): %q, %d", word, b, e)
	}
}

// worded holds the word of some bytes, there and back.
func worded(t *testing.T, b, want string) {
	t.Helper()
	if w := script.Word(b); w != want {
		t.Errorf("Word(%q): %q, not %q", b, w, want)
	}
	if back, e := script.Unword(want); back != b || e != api.OK {
		t.Errorf("Unword(%q): %q, %d, not %q", want, back, e, b)
	}
}

// P30.1, P30.4: words of no bytes, of -, and of words, there and back.
func TestWord(t *testing.T) {
	for b, want := range map[string]string{
		"": "-", "-": "%2d", "--": "--", "-a": "-a", "a-": "a-", "%": "%25", "%2d": "%252d", "%25": "%2525", " ": "%20", "a b": "a%20b", "\n": "%0a", "\x00": "%00", "\xff": "%ff",
		"~": "~", "\x7f": "%7f", "!": "!", "é": "%c3%a9", "#": "#", "100%": "100%25", "/a/B": "/a/B", " -": "%20-", "- ": "-%20", "\xff\xfe": "%ff%fe",
	} {
		worded(t, b, want)
	}
	long := strings.Repeat("\x00", 70000)
	worded(t, long, strings.Repeat("%00", 70000))
}

// P30.1: the word of each byte: as it is from 33 to 126, but % and a - alone; else % and two digits.
func TestWordOfEachByte(t *testing.T) {
	for k := range 256 {
		b := string([]byte{byte(k)})
		want := fmt.Sprintf("%%%02x", k)
		if k >= 33 && k <= 126 && k != '%' {
			want = b
		}
		worded(t, "x"+b, "x"+want)
		worded(t, b+"-", want+"-")
		if b == "-" { // alone
			worded(t, b, "%2d")
			continue
		}
		worded(t, b, want)
		if want != b {
			refused(t, b)
			refused(t, "x"+b)
			refused(t, b+"x")
		}
		if code := fmt.Sprintf("%%%02x", k); code != want {
			refused(t, code)
		}
	}
}

// P30.1: what is the word of no bytes.
func TestNoWord(t *testing.T) {
	for _, word := range []string{
		"", "%", "%%", "%2", "a%", "a%2", "%a", "%zz", "%g0", "%0g", "%+1", "%-1", "% 1", "%1 ", "%0x", "%1_", "%2D", "%FF", "%fF", "%Ff", "%41", "%2d%2d", "%2d-", "-%2d", "%21", "%7e", "%2525%", "%25%", "%%25", "%25 ", "\x00", " ", "a b", "\xff", "é", "a\n", "%c3\xa9",
	} {
		refused(t, word)
	}
}

// P30.1, P30.4: of all words of few signs just those are, that are the word of some bytes.
func TestAnyWords(t *testing.T) {
	words := map[string]string{"-": ""}
	for a := range 256 {
		one := string([]byte{byte(a)})
		words[script.Word(one)] = one
		for b := range 256 {
			two := one + string([]byte{byte(b)})
			words[script.Word(two)] = two
		}
	}
	if len(words) != 1+256+256*256 {
		t.Errorf("%d words", len(words))
	}
	signs := "%-20aDfFx \xff"
	var goes func(word string, left int)
	goes = func(word string, left int) {
		b, e := script.Unword(word)
		want, is := words[word]
		if len(b) <= 2 && (is != (e == api.OK) || b != want) {
			t.Errorf("Unword(%q): %q, %d", word, b, e)
		}
		for i := 0; i < len(signs) && left > 0; i++ {
			goes(word+signs[i:i+1], left-1)
		}
	}
	goes("", 6)
}

// full is an event of a kind that has all that any kind needs.
func full(kind int) sys.Event {
	return sys.Event{Kind: kind, A: "/a b", B: "%", Fd: -3, Off: 70, N: 5, Data: []byte("da\nta"), Pick: []int{1, 0, -2}}
}

// lines are the lines of full events, and what of them is needed.
func lines() map[string]sys.Event {
	all := map[string]sys.Event{}
	for kind, name := range map[int]string{sys.Create: "create", sys.Mkdir: "mkdir", sys.Unlink: "unlink", sys.Rmdir: "rmdir", sys.Readlink: "readlink", sys.Stat: "stat", sys.Lstat: "lstat", sys.Readdir: "readdir", sys.Open: "open"} {
		all[name+" /a%20b"] = sys.Event{Kind: kind, A: "/a b"}
	}
	for kind, name := range map[int]string{sys.Symlink: "symlink", sys.Link: "link", sys.Rename: "rename"} {
		all[name+" /a%20b %25"] = sys.Event{Kind: kind, A: "/a b", B: "%"}
	}
	for kind, name := range map[int]string{sys.Close: "close", sys.Fstat: "fstat", sys.Fsync: "fsync"} {
		all[name+" -3"] = sys.Event{Kind: kind, Fd: -3}
	}
	for kind, name := range map[int]string{sys.Back: "back", sys.Grow: "grow", sys.Shrink: "shrink", sys.Stop: "stop"} {
		all[name+" 5"] = sys.Event{Kind: kind, N: 5}
	}
	for kind, name := range map[int]string{sys.Sync: "sync", sys.Flush: "flush", sys.Defrag: "defrag", sys.Step: "step", sys.Repair: "repair", sys.Mount: "mount"} {
		all[name] = sys.Event{Kind: kind}
	}
	all["read -3 70 5"] = sys.Event{Kind: sys.Read, Fd: -3, Off: 70, N: 5}
	all["write -3 70 da%0ata"] = sys.Event{Kind: sys.Write, Fd: -3, Off: 70, Data: []byte("da\nta")}
	all["truncate -3 70"] = sys.Event{Kind: sys.Truncate, Fd: -3, Off: 70}
	all["crash 1 0 -2"] = sys.Event{Kind: sys.Crash, Pick: []int{1, 0, -2}}
	return all
}

// equal tells whether two events are; of an empty list it is no matter whether it is nil.
func equal(a, b sys.Event) bool {
	if !bytes.Equal(a.Data, b.Data) || !slices.Equal(a.Pick, b.Pick) {
		return false
	}
	a.Data, a.Pick, b.Data, b.Pick = nil, nil, nil, nil
	return reflect.DeepEqual(a, b)
}

// written holds an event's line.
func written(t *testing.T, e sys.Event, want string) {
	t.Helper()
	if line, errno := script.Line(e); line != want || errno != api.OK {
		t.Errorf("Line(%v): %q, %d, not %q", e, line, errno, want)
	}
}

// read holds what a line is.
func read(t *testing.T, line string, want sys.Event) {
	t.Helper()
	if e, errno := script.Parse(line); !equal(e, want) || errno != api.OK {
		t.Errorf("Parse(%q): %v, %d, not %v", line, e, errno, want)
	}
}

// none holds that a line is no event's.
func none(t *testing.T, line string) {
	t.Helper()
	if e, errno := script.Parse(line); !reflect.DeepEqual(e, sys.Event{}) || errno != api.ErrForm {
		t.Errorf("Parse(%q): %v, %d", line, e, errno)
	}
}

// P30.1, P30.4: the line of an event of each kind, in which what it does not need plays no part, and the event of that line.
func TestLines(t *testing.T) {
	all := lines()
	for line, e := range all {
		written(t, full(e.Kind), line)
		written(t, e, line)
		read(t, line, e)
	}
	if len(all) != 29 {
		t.Errorf("%d lines", len(all))
	}
	for _, kind := range []int{0, -1, 30, math.MaxInt, math.MinInt} {
		if line, e := script.Line(full(kind)); line != "" || e != api.ErrArg {
			t.Errorf("Line of the kind %d: %q, %d", kind, line, e)
		}
	}
}

// P30.1, P30.4: events of which each part is as little as can be, or as much.
func TestEdgesOfLines(t *testing.T) {
	for line, e := range map[string]sys.Event{
		"create -":      {Kind: sys.Create},
		"rename - %2d":  {Kind: sys.Rename, B: "-"},
		"symlink - -":   {Kind: sys.Symlink},
		"write 0 0 -":   {Kind: sys.Write},
		"write 0 0 %00": {Kind: sys.Write, Data: []byte{0}},
		"read 0 0 0":    {Kind: sys.Read},
		"crash":         {Kind: sys.Crash},
		"crash 0":       {Kind: sys.Crash, Pick: []int{0}},
		"truncate 4611686018427387904 -4611686018427387904": {Kind: sys.Truncate, Fd: far, Off: -far},
		"read -4611686018427387904 4611686018427387904 -1":  {Kind: sys.Read, Fd: -far, Off: far, N: -1},
		"stop 4611686018427387904":                          {Kind: sys.Stop, N: far},
		"crash 4611686018427387904 -4611686018427387904":    {Kind: sys.Crash, Pick: []int{far, -far}},
		"mkdir mkdir": {Kind: sys.Mkdir, A: "mkdir"},
		"create #":    {Kind: sys.Create, A: "#"},
	} {
		written(t, e, line)
		read(t, line, e)
	}
	many := "crash" + strings.Repeat(" 1", 5000)
	written(t, sys.Event{Kind: sys.Crash, Pick: slices.Repeat([]int{1}, 5000)}, many)
	read(t, many, sys.Event{Kind: sys.Crash, Pick: slices.Repeat([]int{1}, 5000)})
	written(t, sys.Event{Kind: sys.Truncate, Fd: math.MinInt, Off: math.MaxInt64}, "truncate -9223372036854775808 9223372036854775807")
	written(t, sys.Event{Kind: sys.Crash, Pick: []int{math.MaxInt}}, "crash 9223372036854775807")
	written(t, sys.Event{Kind: sys.Write, Data: []byte{}}, "write 0 0 -")
}

// P30.1: a number is written in one way, and is from -2^62 to 2^62, wherever one stands.
func TestNoNumbers(t *testing.T) {
	for _, number := range []string{
		"", "-", "00", "01", "-0", "-01", "+1", "--1", "1-", "1.0", "1e3", "0x1", "1_0", "a", "%31", "1%20", "\xd9\xa1", "1\n", "\t1", "4611686018427387905", "-4611686018427387905", "9223372036854775807", "-9223372036854775808", "9223372036854775808", "99999999999999999999999999",
	} {
		for _, line := range []string{"close *", "fstat *", "fsync *", "read * 0 0", "read 0 * 0", "read 0 0 *", "write * 0 a", "write 0 * a", "truncate * 0", "truncate 0 *", "back *", "grow *", "shrink *", "stop *", "crash *", "crash 1 *", "crash * 1"} {
			none(t, strings.Replace(line, "*", number, 1))
		}
	}
}

// P30.1: what is the line of no event: a blank, or a word, too many or too few, names that are none.
func TestNoLines(t *testing.T) {
	for line := range lines() {
		none(t, " "+line)
		none(t, line+" ")
		none(t, line+"\n")
		none(t, line+"\r")
		none(t, strings.ToUpper(line[:1])+line[1:])
		if !strings.HasPrefix(line[1:], "stat") { // of fstat and lstat
			none(t, line[1:])
		}
		none(t, "x"+line)
		none(t, "\t"+line)
		words := strings.Split(line, " ")
		if len(words) > 1 {
			none(t, strings.Replace(line, " ", "  ", 1))
			none(t, strings.Replace(line, " ", "\t", 1))
			none(t, strings.Replace(line, " ", "", 1))
			none(t, line+" a b")
		}
		if words[0] == "crash" {
			continue
		}
		none(t, line+" 1")
		if len(words) > 1 {
			none(t, strings.Join(words[:len(words)-1], " "))
		}
	}
	for _, line := range []string{"", " ", "#", "# mkdir /a", "-", "0", "1", "nothing", "mkdir /a%", "mkdir a\xffb", "mkdir %2F", "rename /a %", "rename % /a", "write 0 0 %4", "write 0 0", "write 0 0 a b", "CREATE /a", "Mkdir /a", "mkdirs /a", "free", "step 0", "mount -", "close -", "crash -", "crash a", "\xff", "\x00"} {
		none(t, line)
	}
}

// P30.2: an answer of which each part is nothing, one alone is something, and all are.
func TestShow(t *testing.T) {
	items := []api.Item{{Name: "", Id: 0}, {Name: "a b", Id: -1}, {Name: "-", Id: math.MaxInt64}}
	for _, c := range []struct {
		a    sys.Answer
		want string
	}{
		{sys.Answer{}, "0"},
		{sys.Answer{Data: []byte{}, Items: []api.Item{}}, "0"},
		{sys.Answer{Errno: api.ErrSpace}, "26"},
		{sys.Answer{Errno: -1}, "-1"},
		{sys.Answer{N: 7}, "0 n 7"},
		{sys.Answer{N: math.MinInt64}, "0 n -9223372036854775808"},
		{sys.Answer{Text: "a/ f"}, "0 t a/%20f"},
		{sys.Answer{Text: "-"}, "0 t %2d"},
		{sys.Answer{Data: []byte("\x00-")}, "0 d %00-"},
		{sys.Answer{Data: []byte("-")}, "0 d %2d"},
		{sys.Answer{Stat: api.Stat{Id: 1}}, "0 s 1 0 0 0"},
		{sys.Answer{Stat: api.Stat{Kind: 2}}, "0 s 0 2 0 0"},
		{sys.Answer{Stat: api.Stat{Size: 3}}, "0 s 0 0 3 0"},
		{sys.Answer{Stat: api.Stat{Links: 4}}, "0 s 0 0 0 4"},
		{sys.Answer{Items: items[:1]}, "0 i 1 - 0"},
		{sys.Answer{Items: items}, "0 i 3 - 0 a%20b -1 %2d 9223372036854775807"},
		{sys.Answer{Over: true}, "0 over"},
		{sys.Answer{Errno: api.ErrSpace, Over: true}, "26 over"},
		{sys.Answer{Errno: 3, N: 1, Text: "t", Data: []byte("d"), Stat: api.Stat{Id: 5, Kind: 1, Size: 6, Links: 2}, Items: []api.Item{{Name: "i", Id: 9}}, Over: true}, "3 n 1 t t d d s 5 1 6 2 i 1 i 9 over"},
	} {
		if s := script.Show(c.a); s != c.want {
			t.Errorf("Show(%v): %q, not %q", c.a, s, c.want)
		}
	}
}

// runs holds what a text answers.
func runs(t *testing.T, s *sys.Sys, text, want string, lines int, errno api.Errno) {
	t.Helper()
	if out, n, e := script.Run(s, text); out != want || n != lines || e != errno {
		t.Errorf("Run(%.80q): %.200q, %d, %d, not %.200q, %d, %d", text, out, n, e, want, lines, errno)
	}
}

// P30.3: what is answered, and how many lines there are; empty ones and those with # are passed over, and counted.
func TestRun(t *testing.T) {
	runs(t, machine(t), "mkdir /a\nreaddir /", "0\n0 i 1 a 2\n", 2, api.OK)
	runs(t, machine(t), "mkdir /a\nmkdir /a\nstat /x\nmount", "0\n21\n20\n6\n", 4, api.OK)
	runs(t, machine(t), "", "", 1, api.OK)
	runs(t, machine(t), "\n", "", 2, api.OK)
	runs(t, machine(t), "\n\n#\n# crash\n#crash\n\n", "", 7, api.OK)
	runs(t, machine(t), "step\n", "6\n", 2, api.OK)
	runs(t, machine(t), "\n#\nstep\n#", "6\n", 4, api.OK)
	s := machine(t)
	runs(t, s, "create /f\nopen /f\nwrite 0 2 a%20b\nread 0 0 9\nfstat 0\nsymlink /l f\nreadlink /l\nopen /l\ngrow 3\nstep\nstep\nfsync 0", "0\n0\n0\n0 d %00%00a%20b\n0 s 2 1 5 1\n0\n0 t f\n0 n 1\n0\n0\n0 over\n0\n", 12, api.OK)
	runs(t, s, "crash\nstat /f\nrepair\nmount\nreaddir /", "0\n6\n0\n0\n0 i 2 f 2 l 3\n", 5, api.OK)
}

// P30.3: a line that can not be read: all ahead of it is done and told, nothing behind it, and how many are ahead.
func TestRunToAnError(t *testing.T) {
	for _, line := range []string{"bad", " ", " #", "mkdir", "mkdir  /b", "Mkdir /b", "mkdir /b\r", "step 1", "close 00", "\x00"} {
		s := machine(t)
		runs(t, s, line, "", 0, api.ErrForm)
		runs(t, s, line+"\nmkdir /b", "", 0, api.ErrForm)
		runs(t, s, "#\n\n"+line, "", 2, api.ErrForm)
		runs(t, s, "mkdir /a\n# a\nmkdir /a\n"+line+"\nmkdir /c", "0\n21\n", 3, api.ErrForm)
		runs(t, s, "readdir /", "0 i 1 a 2\n", 1, api.OK)
	}
}

// P30.3: no machine, ahead of a text that is too long; one of 65536 bytes is not, and one more is.
func TestRunOfWhat(t *testing.T) {
	most := "step\n" + strings.Repeat("#", 65536-5)
	for _, text := range []string{"", "step", "bad", most, most + "#"} {
		runs(t, nil, text, "", 0, api.ErrNil)
	}
	s := machine(t)
	runs(t, s, most, "6\n", 2, api.OK)
	runs(t, s, most+"#", "", 0, api.ErrSize)
	runs(t, s, "mkdir /a\n"+most, "", 0, api.ErrSize)
	runs(t, s, strings.Repeat("\n", 65536), "", 65537, api.OK)
	runs(t, s, strings.Repeat("\n", 65537), "", 0, api.ErrSize)
	runs(t, s, strings.Repeat("step\n", 13107)+"\n", strings.Repeat("6\n", 13107), 13109, api.OK)
	runs(t, s, "readdir /", "0\n", 1, api.OK)
	var zero sys.Sys
	runs(t, &zero, "step\nstop 1", "6\n0\n", 2, api.OK)
}
