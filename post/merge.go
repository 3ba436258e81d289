package post

import (
	"cmp"
	"iter"
	"slices"
)

// place says in which of two lists a number is. Places may be put together by |.
type place int

const (
	inFirst  place = 1 << iota // and not in the second
	inSecond                   // and not in the first
	inBoth
)

// together puts rising lists together: what is kept of two is that of the wanted places. It goes by halves, as list by list the first numbers would be gone through again with each list behind them.
func together[N cmp.Ordered](l [][]N, wanted place) []N {
	switch len(l) {
	case 0:
		return nil
	case 1:
		return slices.Clone(l[0])
	}
	half := len(l) / 2
	return kept(together(l[:half], wanted), together(l[half:], wanted), wanted)
}

// kept is the numbers of two rising lists that are at the wanted places.
func kept[N cmp.Ordered](a, b []N, wanted place) []N {
	var out []N
	for n, at := range merged(a, b) {
		if at&wanted != 0 {
			out = append(out, n)
		}
	}
	return out
}

// merged gives the numbers of two rising lists, rising, each once, with its place.
func merged[N cmp.Ordered](a, b []N) iter.Seq2[N, place] {
	return func(yield func(N, place) bool) {
		a, b := a, b // its own, so that it may be gone through again
		for len(a) > 0 || len(b) > 0 {
			n, at := first(a, b)
			if at != inSecond {
				a = a[1:]
			}
			if at != inFirst {
				b = b[1:]
			}
			if !yield(n, at) {
				return
			}
		}
	}
}

// first is the least number of two rising lists, one of which at least has any, and its place.
func first[N cmp.Ordered](a, b []N) (N, place) {
	switch {
	case len(b) == 0 || len(a) > 0 && a[0] < b[0]:
		return a[0], inFirst
	case len(a) == 0 || b[0] < a[0]:
		return b[0], inSecond
	}
	return a[0], inBoth
}
