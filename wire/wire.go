// Package wire is layer 1: integers and strings as bytes, and a checksum. See shared/doc/01-wire.md.
package wire

import (
	"iter"
	"strings"

	"latecomer/api"
)

const (
	groupBits = 7
	maxGroups = 9              // 9 groups of 7 bits hold every number up to maxFolded
	more      = 1 << groupBits // is added to every byte but the last one of an encoding
	maxFolded = 2 * api.MaxInt // the number that api.MaxInt is folded to, which is the greatest one
)

// remainders has, for each 4 bits that are shifted out of the register of a checksum, what they change in the rest of it.
var remainders = [16]uint32{
	0x00000000, 0x105ec76f, 0x20bd8ede, 0x30e349b1,
	0x417b1dbc, 0x5125dad3, 0x61c69362, 0x7198540d,
	0x82f63b78, 0x92a8fc17, 0xa24bb5a6, 0xb21572c9,
	0xc38d26c4, 0xd3d3e1ab, 0xe330a81a, 0xf36e6f75,
}

// PutInt returns the encoding of n.
func PutInt(n int) (string, api.Errno) {
	if n < -api.MaxInt || n > api.MaxInt {
		return "", api.ErrWire
	}
	var encoding [maxGroups]byte
	length := 0
	for group := range groups(fold(n)) {
		encoding[length] = group + more
		length++
	}
	encoding[length-1] -= more
	return string(encoding[:length]), api.OK
}

// Int decodes the integer whose encoding begins at offset at of s, and returns it and the offset after it.
func Int(s string, at int) (int, int, api.Errno) {
	if at < 0 || at > len(s) {
		return 0, 0, api.ErrArg
	}
	z := uint64(0)
	for i := range min(len(s)-at, maxGroups) {
		b := s[at+i]
		z += uint64(b%more) << (i * groupBits)
		if b >= more {
			continue
		}
		superfluous := b == 0 && i > 0
		if superfluous || z > maxFolded {
			return 0, 0, api.ErrWire
		}
		return unfold(z), at + i + 1, api.OK
	}
	return 0, 0, api.ErrWire
}

// PutString returns the encoding of s.
func PutString(s string) (string, api.Errno) {
	if len(s) > api.MaxString {
		return "", api.ErrWire
	}
	length, err := PutInt(len(s))
	if err != api.OK {
		return "", err
	}
	return length + s, api.OK
}

// String decodes the string whose encoding begins at offset at of s, and returns it and the offset after it.
func String(s string, at int) (string, int, api.Errno) {
	length, begin, err := Int(s, at)
	if err != api.OK {
		return "", 0, err
	}
	if length < 0 || length > api.MaxString || length > len(s)-begin {
		return "", 0, api.ErrWire
	}
	end := begin + length
	// A part of s would keep all of s in memory: the result is a copy.
	return strings.Clone(s[begin:end]), end, api.OK
}

// Sum returns the CRC-32C checksum of s.
func Sum(s string) int {
	register := ^uint32(0)
	for i := range len(s) {
		register ^= uint32(s[i])
		register = register>>4 ^ remainders[register%16]
		register = register>>4 ^ remainders[register%16]
	}
	return int(^register)
}

// groups yields the groups of 7 bits of z, the least significant one first, without superfluous zero groups.
func groups(z uint64) iter.Seq[byte] {
	return func(yield func(byte) bool) {
		for z >= more {
			if !yield(byte(z % more)) {
				return
			}
			z /= more
		}
		yield(byte(z))
	}
}

// fold maps integers to natural numbers, so that those near 0 have short encodings whatever their signs are.
func fold(n int) uint64 {
	if n < 0 {
		return uint64(-2*n - 1)
	}
	return uint64(2 * n)
}

// unfold returns the integer that is folded to z.
func unfold(z uint64) int {
	half := int(z / 2)
	if z%2 == 1 {
		return -half - 1
	}
	return half
}
