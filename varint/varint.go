// Package varint is layer 1: numbers as bytes.
package varint

import (
	"math/bits"

	"flange/api"
)

const (
	sevenBits = 7
	more      = 0x80 // the bit of a byte that isn't a number's last one
	lastPlace = 9    // of the tenth byte
	lastByte  = 1    // 63 bits stand in the nine bytes ahead of it: one is left
)

// Append is bytes, and a number's behind them.
func Append(b []byte, n uint64) []byte {
	// A caller's spare room must stay as it is, so b is never appended to.
	out := make([]byte, 0, len(b)+Size(n))
	out = append(out, b...)
	for n >= more {
		out = append(out, byte(n)|more)
		n >>= sevenBits
	}
	return append(out, byte(n))
}

// Size is how many bytes a number has.
func Size(n uint64) int {
	if n == 0 {
		return 1
	}
	return (bits.Len64(n) + sevenBits - 1) / sevenBits
}

// Read is the number that bytes begin with, and how many bytes it has.
func Read(b []byte) (uint64, int, api.Errno) {
	var n uint64
	for i, c := range b {
		if !mayStand(i, c) {
			return 0, 0, api.ErrForm
		}
		n |= uint64(c&^more) << (sevenBits * i)
		if c < more {
			return n, i + 1, api.OK
		}
	}
	return 0, 0, api.ErrShort
}

// mayStand tells whether a canonical number may have that byte at that place, if all bytes ahead have more behind them.
func mayStand(place int, c byte) bool {
	if place >= lastPlace {
		return c == lastByte
	}
	return c != 0 || place == 0
}

// Zig is an int as a number without a sign.
func Zig(n int) uint64 {
	if n < 0 {
		// -2n - 1 without its overflow: the complement of n is -n - 1.
		return uint64(^n)<<1 | 1
	}
	return uint64(n) << 1
}

// Zag is the int of such a number.
func Zag(u uint64) int {
	if u&1 == 1 {
		return ^int(u >> 1)
	}
	return int(u >> 1)
}

// AppendInt is bytes, and an int's behind them.
func AppendInt(b []byte, n int) []byte {
	return Append(b, Zig(n))
}

// ReadInt is the int that bytes begin with, and how many bytes it has.
func ReadInt(b []byte) (int, int, api.Errno) {
	u, size, e := Read(b)
	if e != api.OK {
		return 0, 0, e
	}
	return Zag(u), size, api.OK
}

// All is all numbers, and how many bytes they have; or where the first one begins that is none.
func All(b []byte) ([]uint64, int, api.Errno) {
	var l []uint64
	at := 0
	for at < len(b) {
		n, size, e := Read(b[at:])
		if e != api.OK {
			return nil, at, e
		}
		l = append(l, n)
		at += size
	}
	return l, at, api.OK
}
