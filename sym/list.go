package sym

import (
	"slices"
	"strings"

	"tidepole/api"
)

// list is texts that rise, each once.
type list []string

func isTooLong(s string) bool { return len(s) > api.MaxValue }

// sorted is the texts l, rising, each once, in a list of its own.
func sorted(l []string) []string {
	out := slices.Clone(l)
	slices.Sort(out)
	return slices.Compact(out)
}

// own is a list of just as many texts as l has, in memory of their own: a table is not to hold on to a long list of the same texts, nor to what a text was cut from.
func own(l []string) list {
	out := make(list, len(l))
	for n, s := range l {
		out[n] = strings.Clone(s)
	}
	return out
}

// isVoid tells whether it is the list of a table that no call made.
func (l list) isVoid() bool { return l == nil }

// beginning is the part of the list whose texts begin with prefix: they stand side by side, prefix itself ahead.
func (l list) beginning(prefix string) list {
	from, _ := slices.BinarySearch(l, prefix)
	rest := l[from:]
	for n, s := range rest {
		if !strings.HasPrefix(s, prefix) {
			return rest[:n]
		}
	}
	return rest
}

// last is the last text of the list; the empty one, if it has none, as with that no text has a byte in common.
func (l list) last() string {
	if len(l) == 0 {
		return ""
	}
	return l[len(l)-1]
}

// common is how many bytes a and b have in common at their beginnings.
func common(a, b string) int {
	size := min(len(a), len(b))
	for at := range size {
		if a[at] != b[at] {
			return at
		}
	}
	return size
}
