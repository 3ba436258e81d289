package syntax

import (
	"math/bits"

	"tidepole/api"
)

// span is all bytes from low to high.
func span(low, high byte) api.Set {
	var s api.Set
	for b := int(low); b <= int(high); b++ { // an int, as the highest byte has none behind it
		s[b/64] |= 1 << (b % 64)
	}
	return s
}

// union is all bytes that are in one of l.
func union(l ...api.Set) api.Set {
	var out api.Set
	for _, s := range l {
		for k, word := range s {
			out[k] |= word
		}
	}
	return out
}

// others is all bytes that are not in s.
func others(s api.Set) api.Set {
	var out api.Set
	for k, word := range s {
		out[k] = ^word
	}
	return out
}

// onlyByte is the byte of s, if it has just one.
func onlyByte(s api.Set) (byte, bool) {
	n, at := 0, 0
	for k, word := range s {
		if word != 0 {
			n, at = n+bits.OnesCount64(word), k*64+bits.TrailingZeros64(word)
		}
	}
	if n != 1 {
		return 0, false
	}
	return byte(at), true
}
