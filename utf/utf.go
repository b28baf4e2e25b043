// Package utf reads and writes characters as bytes. It is layer 1: see shared/doc/01-utf.md.
package utf

import "iter"

// The characters that may be: none is above top, and none lies from low to high.
const (
	top  = 0x10FFFF
	low  = 0xD800
	high = 0xDFFF
)

// most is how many bytes the longest character has.
const most = 4

// sizes tells by the upper five bits of a character's first byte how many bytes it has; 0, if no character begins so.
var sizes = [32]int{
	1, 1, 1, 1, 1, 1, 1, 1,
	1, 1, 1, 1, 1, 1, 1, 1,
	0, 0, 0, 0, 0, 0, 0, 0,
	2, 2, 2, 2, 3, 3, 4, 0,
}

// leads has, by how many bytes a character has, the bits that its first byte begins with.
var leads = [most + 1]byte{0, 0x00, 0xC0, 0xE0, 0xF0}

// leasts has, by a number of bytes, the first character that needs so many.
var leasts = [most + 1]int32{0, 0, 0x80, 0x800, 0x10000}

// Len is how many bytes the character has that stands in s from at on, and true; 1 and false, if none does; 0 and false, if s has no byte there.
func Len(s string, at int) (int, bool) {
	if at < 0 || at >= len(s) {
		return 0, false
	}
	if _, n := read(s, at); n > 0 {
		return n, true
	}
	return 1, false
}

// Char is the character that stands in s from at on, and true; 0 and false, if none does.
func Char(s string, at int) (int32, bool) {
	if at < 0 || at >= len(s) {
		return 0, false
	}
	c, n := read(s, at)
	return c, n > 0
}

// Put are the bytes of the character c, and true; nothing and false, if c is none.
func Put(c int32) (string, bool) {
	if !isChar(c) {
		return "", false
	}
	n := need(c)
	b := make([]byte, n)
	for i := n - 1; i > 0; i-- {
		b[i] = 0x80 | byte(c&0x3F)
		c >>= 6
	}
	b[0] = leads[n] | byte(c)
	return string(b), true
}

// Start tells whether a step of s begins at at, or s ends there.
func Start(s string, at int) bool {
	if at < 0 || at > len(s) {
		return false
	}
	// A character's later bytes begin no other one: so one that reaches over at is a step whatever stands ahead of it, and s need not be gone through.
	for back := 1; back < most && back <= at; back++ {
		if n, whole := Len(s, at-back); whole && n > back {
			return false
		}
	}
	return true
}

// Count is how many steps s has.
func Count(s string) int {
	n := 0
	for range steps(s) {
		n++
	}
	return n
}

// Valid tells whether no step of s is a lone byte.
func Valid(s string) bool {
	for _, whole := range steps(s) {
		if !whole {
			return false
		}
	}
	return true
}

// steps goes through s from its beginning: the place at which each step begins, and whether it is a character.
func steps(s string) iter.Seq2[int, bool] {
	return func(yield func(int, bool) bool) {
		at := 0
		for at < len(s) {
			n, whole := Len(s, at)
			if !yield(at, whole) {
				return
			}
			at += n
		}
	}
}

// read is the character that stands in s from at on, which is a place of a byte, and how many bytes it has; 0 and 0, if none does.
func read(s string, at int) (int32, int) {
	n := sizes[s[at]>>3]
	if n == 0 || n > len(s)-at {
		return 0, 0
	}
	c := int32(s[at] ^ leads[n])
	for i := at + 1; i < at+n; i++ {
		if s[i]&0xC0 != 0x80 {
			return 0, 0
		}
		c = c<<6 | int32(s[i]&0x3F)
	}
	// Bits that fewer bytes could hold are no character's, though they have the form.
	if c < leasts[n] || !isChar(c) {
		return 0, 0
	}
	return c, n
}

// need is how many bytes the character c has.
func need(c int32) int {
	n := 1
	for n < most && c >= leasts[n+1] {
		n++
	}
	return n
}

// isChar tells whether c is a character.
func isChar(c int32) bool {
	return c >= 0 && c <= top && (c < low || c > high)
}
