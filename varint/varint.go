// Package varint is layer 1: variable-length integers. See shared/doc/01-varint.md.
package varint

import (
	"math/bits"

	"wireschema/api"
)

const (
	groupBits = 7
	more      = 1 << groupBits // the high bit: another group follows
	maxLen    = 10             // nine groups hold 63 bits, the tenth the last one
	fixedLen  = 8
)

// Put returns the varint of u.
func Put(u uint64) string {
	var buf [maxLen]byte
	n := 0
	for u >= more {
		buf[n] = byte(u%more) | more
		u >>= groupBits
		n++
	}
	buf[n] = byte(u)
	return string(buf[:n+1])
}

// Take returns the number whose varint s begins with, and its length.
func Take(s string) (uint64, int, api.Errno) {
	var u uint64
	n := 0
groups:
	for i := range len(s) {
		b := s[i]
		switch {
		case i == maxLen-1 && b > 1:
			// Only one bit is left, so that neither a greater group nor another byte fits.
			return 0, 0, api.ErrRange
		case b < more:
			u |= uint64(b) << (groupBits * i)
			n = i + 1
			break groups
		}
		u |= uint64(b%more) << (groupBits * i)
	}
	if n == 0 {
		return 0, 0, api.ErrShort
	}
	return u, n, api.OK
}

// Len returns the length of Put(u).
func Len(u uint64) int {
	// 0 has one group, too, as if it had one significant bit.
	return (bits.Len64(u|1) + groupBits - 1) / groupBits
}

// Short reports whether s is the varint of a number in its shortest form.
func Short(s string) bool {
	_, n, e := Take(s)
	if e != api.OK || n != len(s) {
		return false
	}
	return n == 1 || s[n-1] != 0
}

// Zig maps signed to unsigned numbers.
func Zig(n int) uint64 {
	if n >= 0 {
		return 2 * uint64(n)
	}
	// -2 * n - 1, without the negation of n, which does not exist for the least integer.
	return 2*uint64(-(n+1)) + 1
}

// Zag is the inverse of Zig.
func Zag(u uint64) int {
	half := int(u / 2)
	if u%2 == 0 {
		return half
	}
	return -half - 1
}

// Fixed returns the eight bytes of u.
func Fixed(u uint64) string {
	var buf [fixedLen]byte
	for i := range buf {
		buf[i] = byte(u >> (8 * i))
	}
	return string(buf[:])
}

// TakeFixed returns the number whose eight bytes s begins with.
func TakeFixed(s string) (uint64, api.Errno) {
	if len(s) < fixedLen {
		return 0, api.ErrShort
	}
	var u uint64
	for i := range fixedLen {
		u |= uint64(s[i]) << (8 * i)
	}
	return u, api.OK
}
