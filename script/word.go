package script

import (
	"strconv"
	"strings"

	"levee/api"
)

const (
	nothing = "-" // the word of no bytes
	digits  = "0123456789abcdef"
)

// plain tells whether a byte stands in a word as it is.
func plain(b byte) bool {
	return b >= 33 && b <= 126 && b != '%'
}

// Word writes any bytes without a blank. What would read as no bytes is not written as it is.
func Word(s string) string {
	if s == "" {
		return nothing
	}
	var w strings.Builder
	for i := range len(s) {
		if b := s[i]; plain(b) && s != nothing {
			w.WriteByte(b)
		} else {
			w.WriteByte('%')
			w.WriteByte(digits[b>>4])
			w.WriteByte(digits[b&15])
		}
	}
	return w.String()
}

// Unword reads a word. Any bytes have one word alone: what reads as some, but is not their word, is none.
func Unword(s string) (string, api.Errno) {
	if s == nothing {
		return "", api.OK
	}
	var b strings.Builder
	for at := 0; at < len(s); at++ {
		if s[at] != '%' {
			b.WriteByte(s[at])
			continue
		}
		if len(s)-at < 3 {
			return "", api.ErrForm
		}
		n, err := strconv.ParseUint(s[at+1:at+3], 16, 8)
		if err != nil {
			return "", api.ErrForm
		}
		b.WriteByte(byte(n))
		at += 2
	}
	if Word(b.String()) != s {
		return "", api.ErrForm
	}
	return b.String(), api.OK
}
