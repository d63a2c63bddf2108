// Package num is layer 1: numbers as bytes, and sums. See shared/doc/01-num.md.
package num

import "levee/api"

// wide is how many bytes a number has.
const wide = 8

// quarters holds what four bits at a time do to a sum: a table by whole bytes is more than a package may hold.
var quarters = [16]uint32{
	0x00000000, 0x1db71064, 0x3b6e20c8, 0x26d930ac,
	0x76dc4190, 0x6b6b51f4, 0x4db26158, 0x5005713c,
	0xedb88320, 0xf00f9344, 0xd6d6a3e8, 0xcb61b38c,
	0x9b64c2b0, 0x86d3d2d4, 0xa00ae278, 0xbdbdf21c,
}

// Put fills b with the bytes of n, the lowest first, and with 0 behind the eighth.
func Put(b []byte, n uint64) {
	var all [wide]byte
	for i := range wide {
		all[i] = byte(n >> (8 * i))
	}
	filled := copy(b, all[:])
	clear(b[filled:])
}

// Get is the number whose bytes, the lowest first, are the first eight of b.
func Get(b []byte) uint64 {
	var all [wide]byte
	copy(all[:], b)
	var n uint64
	for i := range wide {
		n |= uint64(all[i]) << (8 * i)
	}
	return n
}

// Sum is the CRC-32 of b.
func Sum(b []byte) uint32 {
	sum := ^uint32(0)
	for i := range len(b) {
		sum ^= uint32(b[i])
		sum = sum>>4 ^ quarters[sum&15]
		sum = sum>>4 ^ quarters[sum&15]
	}
	return ^sum
}

// Zero tells whether all bytes are 0.
func Zero(b []byte) bool {
	for i := range len(b) {
		if b[i] != 0 {
			return false
		}
	}
	return true
}

// Cut answers n bytes of b from a place on, in new memory.
func Cut(b []byte, from, n int) ([]byte, api.Errno) {
	if !within(b, from, n) {
		return nil, api.ErrRange
	}
	part := make([]byte, n)
	copy(part, b[from:])
	return part, api.OK
}

// Lay answers b with c over its bytes from a place on, in new memory.
func Lay(b []byte, from int, c []byte) ([]byte, api.Errno) {
	if !within(b, from, len(c)) {
		return nil, api.ErrRange
	}
	whole := make([]byte, len(b))
	copy(whole, b)
	copy(whole[from:], c)
	return whole, api.OK
}

// within subtracts, for from and n together may be more than an int holds.
func within(b []byte, from, n int) bool {
	return from >= 0 && n >= 0 && from <= len(b) && n <= len(b)-from
}

// Diff answers the first place at which a and b differ and the one behind the last; -1 and -1 if there is none.
func Diff(a, b []byte) (int, int) {
	both := min(len(a), len(b))
	first, behind := -1, -1
	for i := range max(len(a), len(b)) {
		if i < both && a[i] == b[i] {
			continue
		}
		if first < 0 {
			first = i
		}
		behind = i + 1
	}
	return first, behind
}
