package post

import (
	"maps"
	"math"
	"math/rand"
	"slices"
	"testing"

	"tidepole/api"
)

const highest = math.MaxUint64

// list is its numbers.
func list(n ...uint64) []uint64 { return n }

// set is the numbers of a list, without an order.
type set map[uint64]bool

func setOf(l []uint64) set {
	s := set{}
	for _, n := range l {
		s[n] = true
	}
	return s
}

// sorted is the numbers of a set as a list.
func (s set) sorted() []uint64 { return slices.Sorted(maps.Keys(s)) }

// inAll is what And must say, by the words: those of the first one that all others have.
func inAll(l ...[]uint64) []uint64 {
	if len(l) == 0 {
		return nil
	}
	out := set{}
	for _, n := range l[0] {
		out[n] = true
		for _, x := range l {
			if !slices.Contains(x, n) {
				delete(out, n)
			}
		}
	}
	return out.sorted()
}

// inOne is what Or must say, by the words.
func inOne(l ...[]uint64) []uint64 { return setOf(slices.Concat(l...)).sorted() }

// inNot is what But must say, by the words.
func inNot(a, b []uint64) []uint64 {
	out := setOf(a)
	for _, n := range b {
		delete(out, n)
	}
	return out.sorted()
}

// numbers are those that lists are drawn from: some near each other, and those at the ends.
func numbers() []uint64 {
	return list(0, 1, 2, 3, 4, 5, 6, 7, 255, 256, 1<<32-1, 1<<32, 1<<63-1, 1<<63, 1<<63+1, highest-2, highest-1, highest)
}

// drawnList is a rising list of some of the numbers; sometimes of none, of one, and of all.
func drawnList(r *rand.Rand) []uint64 {
	part := []int{0, 1, 3, 5, 8, 10}[r.Intn(6)]
	var out []uint64
	for _, n := range numbers() {
		if r.Intn(10) < part {
			out = append(out, n)
		}
	}
	return out
}

// drawnLists is n of them, of which some are the same.
func drawnLists(r *rand.Rand, n int) [][]uint64 {
	var out [][]uint64
	for k := range n {
		if k > 0 && r.Intn(5) == 0 {
			out = append(out, out[r.Intn(k)])
			continue
		}
		out = append(out, drawnList(r))
	}
	return out
}

// wrong is lists whose numbers do not rise: in the first place, in the last, and between; twice there, or falling.
func wrong() [][]uint64 {
	return [][]uint64{
		list(2, 2), list(2, 1), list(0, 0), list(1, 0), list(highest, highest), list(highest, 0), list(highest, highest-1),
		list(1, 1, 2, 3), list(2, 1, 3, 4), list(1, 2, 3, 3), list(1, 2, 4, 3), list(1, 2, 2, 3), list(1, 5, 2, 6), list(0, highest, 0),
		list(1<<63, 1<<63-1), list(1<<32, 1<<32-1), list(4, 3, 2, 1), list(7, 7, 7),
	}
}

// right is lists that rise, at the edges.
func right() [][]uint64 {
	return [][]uint64{
		nil, {}, list(0), list(7), list(highest), list(0, highest), list(0, 1), list(highest-1, highest),
		list(1<<63-1, 1<<63), list(1<<32-1, 1<<32), list(1, 3, 5), list(3, 4, 5), numbers(),
	}
}

// mustBe holds an answer against what it must be, OK beside it.
func mustBe(t *testing.T, what string, got []uint64, e api.Errno, want []uint64) {
	t.Helper()
	if e != api.OK || !slices.Equal(got, want) {
		t.Fatalf("%s: %v, %v, want %v", what, got, e, want)
	}
}

// mustRefuse holds a refused answer against its error.
func mustRefuse(t *testing.T, what string, got []uint64, e, want api.Errno) {
	t.Helper()
	if e != want || len(got) != 0 {
		t.Fatalf("%s: %v, %v, want %v", what, got, e, want)
	}
}

// roomy is l with room behind it, which no call may touch.
func roomy(l []uint64) (shown, whole []uint64) {
	whole = append(slices.Clone(l), 77, 78, 79, 80)
	return whole[:len(l)], whole
}

// spoil changes all of a list, and the room behind it.
func spoil(l []uint64) {
	l = l[:cap(l)]
	for k := range l {
		l[k] = 1234567
	}
}
