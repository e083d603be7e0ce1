// Package runes is layer 1: what bytes are, and characters as bytes. See shared/doc/01-runes.md.
package runes

import (
	"strings"
	"unicode/utf8"

	"twinstep/api"
)

// most is the greatest number that Encode takes.
const most = 1<<31 - 1

// replacement is the character 65533 as bytes: a text may hold it of its own accord.
const replacement = "\xef\xbf\xbd"

// Letter tells whether b is A to Z, a to z or _.
func Letter(b byte) bool {
	return 'A' <= b && b <= 'Z' || 'a' <= b && b <= 'z' || b == '_'
}

// Digit tells whether b is 0 to 9.
func Digit(b byte) bool {
	return '0' <= b && b <= '9'
}

// Space tells whether b is a byte 9 to 13, or 32.
func Space(b byte) bool {
	return 9 <= b && b <= 13 || b == 32
}

// Hex answers what b is worth as a hexadecimal digit, and whether it is one.
func Hex(b byte) (int, bool) {
	switch {
	case Digit(b):
		return int(b - '0'), true
	case 'a' <= b && b <= 'f':
		return int(b-'a') + 10, true
	case 'A' <= b && b <= 'F':
		return int(b-'A') + 10, true
	}
	return 0, false
}

// Encode answers the number n as one to six bytes.
func Encode(n int64) (string, api.Errno) {
	if n < 0 || n > most {
		return "", api.ErrRune
	}
	if n < 1<<7 {
		return string([]byte{byte(n)}), api.OK
	}
	out := make([]byte, size(n))
	for i := len(out) - 1; i > 0; i-- {
		out[i] = 0x80 | byte(n&0x3f)
		n >>= 6
	}
	out[0] = mark(len(out)) | byte(n)
	return string(out), api.OK
}

// size answers the least number of bytes, from 2 on, that have room for n.
func size(n int64) int {
	k := 2
	for n >= 1<<(5*k+1) {
		k++
	}
	return k
}

// mark answers a byte that has k ones at its highest bits, and else noughts.
func mark(k int) byte {
	return ^byte(0xff >> k)
}

// Each answers the characters of s, and where each begins; a byte that begins none is a character 65533.
func Each(s string) ([]rune, []int) {
	var chars []rune
	var starts []int
	for at, c := range s {
		chars = append(chars, c)
		starts = append(starts, at)
	}
	return chars, starts
}

// Valid tells whether each byte of s is part of a character.
func Valid(s string) bool {
	for at, c := range s {
		// The loop tells a byte that begins nothing by the same number as a character 65533 that s does have.
		if c == utf8.RuneError && !strings.HasPrefix(s[at:], replacement) {
			return false
		}
	}
	return true
}
