// Package bits: shifts, signs, numbers of unlike lengths: see doc/01-bits.md.
package bits

import (
	"math"

	"narthex/api"
)

// Size is how many bytes n has as a number of unlike length; 0 above api.MaxVar.
func Size(n uint64) int {
	if n > api.MaxVar {
		return 0
	}
	return 1 << class(n)
}

// PutVar is b with n behind it, the highest byte first, in new memory; b and false if n is above api.MaxVar.
func PutVar(b []byte, n uint64) ([]byte, bool) {
	size := Size(n)
	// Not append to b: its spare room is the caller's.
	out := make([]byte, len(b), len(b)+size)
	copy(out, b)
	if size == 0 {
		return out, false
	}
	n |= class(n) << (8*size - 2)
	for shift := 8 * (size - 1); shift >= 0; shift -= 8 {
		out = append(out, byte(n>>shift))
	}
	return out, true
}

// GetVar is the number that b begins with and how many bytes it has; 0, 0 if bytes lack.
func GetVar(b []byte) (uint64, int) {
	if len(b) == 0 {
		return 0, 0
	}
	size := 1 << (b[0] >> 6)
	if len(b) < size {
		return 0, 0
	}
	n := uint64(b[0] & 0x3f)
	for _, x := range b[1:size] {
		n = n<<8 | uint64(x)
	}
	return n, size
}

// Low is n's k lowest bits: none of k below 1, all of k above 63.
func Low(n uint64, k int) uint64 {
	switch {
	case k < 1:
		return 0
	case k > 63:
		return n
	}
	return n & (1<<k - 1)
}

// Extend is n's k lowest bits as a number of two's complement: 0 of k below 1, all 64 of k above 64.
func Extend(n uint64, k int) int64 {
	if k < 1 {
		return 0
	}
	shift := 64 - min(k, 64)
	// Signed numbers are shifted right with their sign, so the bit k-1 fills all above it.
	return int64(n<<shift) >> shift
}

// Rot is n turned left by k places, modulo 64; below 0 it is turned right.
func Rot(n uint64, k int) uint64 {
	// The low six bits of two's complement are k modulo 64 whatever its sign.
	left := uint(k) & 63
	return n<<left | n>>(64-left)
}

// Zig is 2n of n from 0 on, -2n - 1 below.
func Zig(n int64) uint64 {
	return uint64(n)<<1 ^ uint64(n>>63)
}

// Zag is the number whose Zig is n.
func Zag(n uint64) int64 {
	return int64(n>>1) ^ -int64(n&1)
}

// Clamp is the number nearest to n that k bits of two's complement hold: k below 1 as 1, above 64 as 64.
func Clamp(n int64, k int) int64 {
	shift := 64 - min(max(k, 1), 64)
	return min(max(n, math.MinInt64>>shift), math.MaxInt64>>shift)
}

// class is what the two highest bits of n's bytes tell of their length.
func class(n uint64) uint64 {
	switch {
	case n < 1<<6:
		return 0
	case n < 1<<14:
		return 1
	case n < 1<<30:
		return 2
	}
	return 3
}
