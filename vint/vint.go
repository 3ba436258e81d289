// Package vint is layer 1: numbers as bytes, as few as are needed. See shared/doc/01-vint.md.
package vint

import (
	"math/bits"

	"tidepole/api"
)

const (
	more    = 128 // set in each byte but a number's last one
	low     = 127 // what a byte holds of the number
	perByte = 7   // how many bits that is
	maxSize = 10  // how many bytes 64 bits need
	maxTop  = 1   // the tenth byte holds the 64th bit alone
)

// Put is b, and the bytes of n behind it, in new memory.
func Put(b []byte, n uint64) []byte { return put(b, n) }

// PutInt is b, and the bytes of n, a number with a sign, behind it, in new memory.
func PutInt(b []byte, n int) []byte { return put(b, n) }

// put copies b even where there is room behind it: that room may be another's.
func put[N uint64 | int](b []byte, n N) []byte {
	rest := fold(n)
	out := make([]byte, len(b), len(b)+Size(rest))
	copy(out, b)
	for rest > low {
		out = append(out, byte(rest)|more)
		rest >>= perByte
	}
	return append(out, byte(rest))
}

// fold makes a number without a sign of one of either kind: 0, -1, 1, -2 are 0, 1, 2, 3, so that those near 0 stay short.
func fold[N uint64 | int](n N) uint64 {
	var zero N
	if zero-1 > zero { // only a kind without a sign wraps round here
		return uint64(n)
	}
	if n < 0 {
		return 2*uint64(-n) - 1 // right for the least number too, as 64 bits wrap round
	}
	return 2 * uint64(n)
}

// unfold takes back what fold does to a number with a sign.
func unfold(n uint64) int {
	half := int(n >> 1)
	if n&1 == 1 {
		return -half - 1
	}
	return half
}

// Size is how many bytes n has.
func Size(n uint64) int {
	return (max(bits.Len64(n), 1) + perByte - 1) / perByte
}

// Read is the number that stands at the place at, and the place behind it.
func Read(b []byte, at int) (uint64, int, api.Errno) {
	if at < 0 || at > len(b) {
		return 0, 0, api.ErrArg
	}
	// The last byte is looked for first, however far it is, as ErrShort is named ahead of ErrVint.
	size := sizeOfFirst(b[at:])
	if size == 0 {
		return 0, 0, api.ErrShort
	}
	n, ok := join(b[at : at+size])
	if !ok {
		return 0, 0, api.ErrVint
	}
	return n, at + size, api.OK
}

// ReadInt is the number with a sign that stands at the place at, and the place behind it.
func ReadInt(b []byte, at int) (int, int, api.Errno) {
	n, end, e := Read(b, at)
	if e != api.OK {
		return 0, 0, e
	}
	return unfold(n), end, api.OK
}

// sizeOfFirst is how many bytes there are to the end of the first number of b; 0, if its last byte is missing.
func sizeOfFirst(b []byte) int {
	for i, x := range b {
		if x < more {
			return i + 1
		}
	}
	return 0
}

// join is the number that has the bytes b (one at least, the last one below 128), and whether it has just these.
func join(b []byte) (uint64, bool) {
	size, top := len(b), b[len(b)-1]
	if size > 1 && top == 0 || size > maxSize || size == maxSize && top > maxTop {
		return 0, false
	}
	n := uint64(0)
	for i, x := range b {
		n |= uint64(x&low) << (perByte * i)
	}
	return n, true
}

// PutBytes is b, then how many bytes x has, then these, in new memory.
func PutBytes(b []byte, x []byte) ([]byte, api.Errno) {
	if len(x) > api.MaxBytes {
		return nil, api.ErrLong
	}
	return append(Put(b, uint64(len(x))), x...), api.OK
}

// ReadBytes is a copy of the bytes that stand behind their number at the place at, and the place behind them.
func ReadBytes(b []byte, at int) ([]byte, int, api.Errno) {
	n, from, e := Read(b, at)
	if e != api.OK {
		return nil, 0, e
	}
	if n > api.MaxBytes {
		return nil, 0, api.ErrLong
	}
	size := int(n)
	if size > len(b)-from {
		return nil, 0, api.ErrShort
	}
	x := make([]byte, size)
	copy(x, b[from:from+size])
	return x, from + size, api.OK
}
