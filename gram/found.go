package gram

import (
	"math/bits"
	"slices"

	"tidepole/post"
)

// In this file no error of post's comes up: all lists rise, and a query that may be has fewer members than post takes lists.

// found is the numbers of some that fit q, which may be. It may be some itself.
func found(q Query, x *post.Index, some []uint64) []uint64 {
	if len(some) == 0 {
		return nil
	}
	switch q.Op {
	case opAll:
		return some
	case opGram:
		return common(x.List(q.Text), some)
	case opAllOf:
		for _, member := range q.L {
			some = found(member, x, some)
		}
		return some
	case opOneOf:
		return foundByOne(q.L, x, some)
	}
	return nil
}

// foundByOne is the numbers of some that fit one of l.
func foundByOne(l []Query, x *post.Index, some []uint64) []uint64 {
	var parts, late [][]uint64
	size := 0 // of late
	for _, member := range l {
		part := found(member, x, some)
		late, size = append(late, part), size+len(part)
		if size < len(some) {
			continue
		}
		// What is known is not looked for again. That goes through some, so it waits till as many were found.
		known, _ := post.Or(late...)
		some, _ = post.But(some, known)
		parts, late, size = append(parts, known), nil, 0
	}
	out, _ := post.Or(append(parts, late...)...)
	return out
}

// common is the numbers of l, which may be changed, that are in some, too.
func common(l, some []uint64) []uint64 {
	if len(l)*bits.Len(uint(len(some))) < len(some) { // so few are found sooner one by one
		return slices.DeleteFunc(l, func(n uint64) bool {
			_, isIn := slices.BinarySearch(some, n)
			return !isIn
		})
	}
	both, _ := post.And(l, some)
	return both
}
