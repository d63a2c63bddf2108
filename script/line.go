package script

import (
	"slices"
	"strconv"
	"strings"

	"levee/api"
	"levee/sys"
)

// names are those of the kinds.
var names = [sys.Mount + 1]string{
	sys.Create: "create", sys.Mkdir: "mkdir", sys.Symlink: "symlink", sys.Link: "link",
	sys.Unlink: "unlink", sys.Rmdir: "rmdir", sys.Rename: "rename", sys.Readlink: "readlink",
	sys.Stat: "stat", sys.Lstat: "lstat", sys.Readdir: "readdir",
	sys.Open: "open", sys.Close: "close", sys.Read: "read", sys.Write: "write",
	sys.Truncate: "truncate", sys.Fstat: "fstat", sys.Fsync: "fsync",
	sys.Sync: "sync", sys.Back: "back", sys.Flush: "flush",
	sys.Grow: "grow", sys.Shrink: "shrink", sys.Defrag: "defrag", sys.Step: "step",
	sys.Stop: "stop", sys.Crash: "crash", sys.Repair: "repair", sys.Mount: "mount",
}

// kind answers the kind of a name; 0, if it is none.
func kind(name string) int {
	for k, n := range names {
		if n == name {
			return k
		}
	}
	return 0
}

// part is one of an event's parts, as a word.
type part int

const (
	partA part = iota
	partB
	partFd
	partOff
	partN
	partData
	partPick // one number of it
)

// needs lists the parts that stand behind the name of a kind; of Pick there are as many as is said.
func needs(kind, picks int) []part {
	switch kind {
	case sys.Create, sys.Mkdir, sys.Unlink, sys.Rmdir, sys.Readlink, sys.Stat, sys.Lstat, sys.Readdir, sys.Open:
		return []part{partA}
	case sys.Symlink, sys.Link, sys.Rename:
		return []part{partA, partB}
	case sys.Close, sys.Fstat, sys.Fsync:
		return []part{partFd}
	case sys.Read:
		return []part{partFd, partOff, partN}
	case sys.Write:
		return []part{partFd, partOff, partData}
	case sys.Truncate:
		return []part{partFd, partOff}
	case sys.Back, sys.Grow, sys.Shrink, sys.Stop:
		return []part{partN}
	case sys.Crash:
		return slices.Repeat([]part{partPick}, picks)
	}
	return nil
}

// Line writes an event as a line.
func Line(e sys.Event) (string, api.Errno) {
	if e.Kind < sys.Create || e.Kind > sys.Mount {
		return "", api.ErrArg
	}
	words := []string{names[e.Kind]}
	for at, p := range needs(e.Kind, len(e.Pick)) {
		words = append(words, written(e, p, at))
	}
	return strings.Join(words, " "), api.OK
}

// written is the part of an event that stands at a place behind its name, as a word.
func written(e sys.Event, p part, at int) string {
	switch p {
	case partA:
		return Word(e.A)
	case partB:
		return Word(e.B)
	case partData:
		return Word(string(e.Data))
	case partFd:
		return decimal(int64(e.Fd))
	case partOff:
		return decimal(e.Off)
	case partN:
		return decimal(int64(e.N))
	}
	return decimal(int64(e.Pick[at]))
}

// Parse reads an event's line.
func Parse(line string) (sys.Event, api.Errno) {
	words := strings.Split(line, " ")
	e := sys.Event{Kind: kind(words[0])}
	if e.Kind == 0 {
		return sys.Event{}, api.ErrForm
	}
	words = words[1:]
	parts := needs(e.Kind, len(words))
	if len(parts) != len(words) {
		return sys.Event{}, api.ErrForm
	}
	for at, p := range parts {
		if errno := read(&e, p, words[at]); errno != api.OK {
			return sys.Event{}, errno
		}
	}
	return e, api.OK
}

// read gives an event the part that a word is.
func read(e *sys.Event, p part, word string) api.Errno {
	switch p {
	case partA, partB, partData:
		return readText(e, p, word)
	}
	return readNumber(e, p, word)
}

func readText(e *sys.Event, p part, word string) api.Errno {
	s, errno := Unword(word)
	switch p {
	case partA:
		e.A = s
	case partB:
		e.B = s
	case partData:
		e.Data = append([]byte(nil), s...) // of no bytes it is nil, as where it is not needed
	}
	return errno
}

func readNumber(e *sys.Event, p part, word string) api.Errno {
	n, errno := number(word)
	switch p {
	case partFd:
		e.Fd = int(n)
	case partOff:
		e.Off = n
	case partN:
		e.N = int(n)
	case partPick:
		e.Pick = append(e.Pick, int(n))
	}
	return errno
}

// number reads a number. Each has one way to be written.
func number(word string) (int64, api.Errno) {
	const far = 1 << 62
	n, err := strconv.ParseInt(word, 10, 64)
	if err != nil || decimal(n) != word || n < -far || n > far {
		return 0, api.ErrForm
	}
	return n, api.OK
}
