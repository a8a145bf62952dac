// Package bytes is layer 1: numbers, strings and checks as bytes; see shared/doc/01-bytes.md.
package bytes

import (
	"slices"

	"millwheel/api"
)

const (
	numberBytes = 10         // the most that a number without a sign takes
	sevenBits   = 7          // what of a number stands in one byte
	moreBit     = 1 << 7     // set where another seven comes
	lowBits     = 1<<7 - 1   // the seven itself
	lastSeven   = 1          // nine sevens are 63 bits: one bit is left for the tenth byte
	byteBits    = 8          // pushes of the register for a byte
	polynomial  = 3988292384 // what the register is held against when a set bit falls out
	checkBytes  = 4          // what a check takes behind what is sealed
)

// Uint answers out, and behind it a number without a sign.
func Uint(out []byte, n uint64) []byte {
	return slices.Concat(out, sevens(n))
}

// Int answers out, and behind it a number with a sign.
func Int(out []byte, n int64) []byte {
	return Uint(out, fold(n))
}

// Blob answers out, and behind it a string with its length ahead.
func Blob(out, b []byte) []byte {
	return slices.Concat(out, sevens(uint64(len(b))), b)
}

// GetUint reads the number without a sign at a place, and tells the place behind it.
func GetUint(b []byte, at int) (uint64, int, api.Errno) {
	if at < 0 || at > len(b) {
		return 0, 0, api.ErrArg
	}
	var n uint64
	for i := range min(numberBytes, len(b)-at) {
		one := b[at+i]
		if !mayStand(one, i) {
			return 0, 0, api.ErrBytes
		}
		n |= uint64(one&lowBits) << (sevenBits * i)
		if one < moreBit {
			return n, at + i + 1, api.OK
		}
	}
	return 0, 0, api.ErrShort
}

// GetInt reads the number with a sign at a place, and tells the place behind it.
func GetInt(b []byte, at int) (int64, int, api.Errno) {
	n, next, e := GetUint(b, at)
	return unfold(n), next, e
}

// GetBlob reads the string of at most so many bytes at a place, and tells the place behind it.
func GetBlob(b []byte, at, most int) ([]byte, int, api.Errno) {
	n, from, e := GetUint(b, at)
	if e != api.OK {
		return nil, 0, e
	}
	// Lengths are held against each other without a sign: one of 2^63 or more would turn below 0 as an int.
	if most < 0 || n > uint64(most) {
		return nil, 0, api.ErrLong
	}
	if n > uint64(len(b)-from) {
		return nil, 0, api.ErrShort
	}
	to := from + int(n)
	return own(b[from:to]), to, api.OK
}

// Crc answers the check of b.
func Crc(b []byte) uint32 {
	register := ^uint32(0)
	for _, one := range b {
		register ^= uint32(one)
		for range byteBits {
			// The bit that falls out is made a mask, not asked by an if: it is as good as chance, and a processor would guess it wrong half the time.
			register = register>>1 ^ polynomial&-(register&1)
		}
	}
	return ^register
}

// Seal answers b with its check behind it.
func Seal(b []byte) []byte {
	return slices.Concat(b, check(b))
}

// Unseal answers what was sealed.
func Unseal(b []byte) ([]byte, api.Errno) {
	n := len(b) - checkBytes
	if n < 0 {
		return nil, api.ErrShort
	}
	if !slices.Equal(b[n:], check(b[:n])) {
		return nil, api.ErrSum
	}
	return own(b[:n]), api.OK
}

// own copies a piece into memory of its own; slices.Clone would leave an empty one pointing into what it was cut from.
func own(piece []byte) []byte {
	return slices.Concat(piece)
}

// sevens cuts a number into the bytes that it is written as.
func sevens(n uint64) []byte {
	cut := make([]byte, 0, numberBytes)
	for range numberBytes {
		if n < moreBit {
			return append(cut, byte(n))
		}
		cut = append(cut, byte(n)|moreBit)
		n >>= sevenBits
	}
	return cut
}

// mayStand tells whether a number's byte may stand at its place i: so that each number is written in one way only, and fits 64 bits.
func mayStand(one byte, i int) bool {
	if i == numberBytes-1 && one > lastSeven {
		return false
	}
	return one != 0 || i == 0
}

// fold gives each number with a sign the one without it that is written in its stead: small ones stay short on both sides of 0.
func fold(n int64) uint64 {
	return uint64(n)<<1 ^ uint64(n>>63)
}

// unfold undoes fold.
func unfold(n uint64) int64 {
	return int64(n>>1) ^ -int64(n&1)
}

// check answers the check of b as bytes, highest byte first.
func check(b []byte) []byte {
	sum := Crc(b)
	out := make([]byte, checkBytes)
	for i := range checkBytes {
		out[checkBytes-1-i] = byte(sum >> (byteBits * i))
	}
	return out
}
