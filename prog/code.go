package prog

import (
	"slices"

	"tidepole/api"
)

// The Kinds of an api.Re.
const (
	oneByte = 1
	allOf   = 2
	oneOf   = 3
	times   = 4
)

const (
	noEnd    = -1      // a Max without an end
	maxCount = 1 << 20 // what is told of more instructions
)

// code is code that is not put yet.
type code struct {
	// size is how many instructions it has, at most maxCount and a little: what is repeated again and again may have more than can be counted, and is never put.
	size int
	// put puts it behind l, so that it begins at the number len(l), and goes on at next.
	put func(l []api.Inst, next int) []api.Inst
}

// program is the code of r, and behind it the end. It goes on nowhere.
func program(r api.Re) code { return sequence(codeOf(r), end()) }

// codeOf is the code of an r that may be.
func codeOf(r api.Re) code {
	switch r.Kind {
	case oneByte:
		return single(api.Inst{Op: opByte, Set: r.Set})
	case times:
		return repeated(codeOf(r.L[0]), r.Min, r.Max)
	}
	l := make([]code, len(r.L))
	for k, member := range r.L {
		l[k] = codeOf(member)
	}
	if r.Kind == oneOf {
		return choice(l...)
	}
	return sequence(l...)
}

// single is x alone, whose X is where it goes on.
func single(x api.Inst) code {
	return code{1, func(l []api.Inst, next int) []api.Inst {
		return append(l, api.Inst{Op: x.Op, Set: x.Set, X: next})
	}}
}

func end() code {
	return code{1, func(l []api.Inst, _ int) []api.Inst {
		return append(l, api.Inst{Op: opEnd})
	}}
}

// sequence is all of parts, each going on where the next one begins.
func sequence(parts ...code) code {
	if len(parts) == 0 {
		return single(api.Inst{Op: opJump})
	}
	size := 0
	for _, c := range parts {
		size = min(size+c.size, maxCount)
	}
	last := len(parts) - 1
	return code{size, func(l []api.Inst, next int) []api.Inst {
		for _, c := range parts[:last] {
			l = c.put(l, len(l)+c.size)
		}
		return parts[last].put(l, next)
	}}
}

// choice is one of parts. Of none no byte leads on, but it has its place, so that what stands behind it is come to.
func choice(parts ...code) code {
	if len(parts) == 0 {
		return single(api.Inst{Op: opByte})
	}
	last := len(parts) - 1
	size := parts[last].size
	for _, c := range parts[:last] {
		size = min(size+1+c.size, maxCount)
	}
	return code{size, func(l []api.Inst, next int) []api.Inst {
		for _, c := range parts[:last] {
			l = option(c, len(l)+1+c.size).put(l, next)
		}
		return parts[last].put(l, next)
	}}
}

// repeated is c from so many times on, to so many times.
func repeated(c code, from, to int) code {
	// Each of those that may be left out leaves for the end of all of them, not for the next one, so they are made anew for each place where it goes on.
	parts := func(next int) []code {
		l := slices.Repeat([]code{c}, from)
		if to == noEnd {
			return append(l, loop(c))
		}
		return append(l, slices.Repeat([]code{option(c, next)}, to-from)...)
	}
	return code{sequence(parts(0)...).size, func(l []api.Inst, next int) []api.Inst {
		return sequence(parts(next)...).put(l, next)
	}}
}

// option is c, or what begins at other.
func option(c code, other int) code {
	return code{1 + c.size, func(l []api.Inst, next int) []api.Inst {
		return c.put(append(l, api.Inst{Op: opSplit, X: len(l) + 1, Y: other}), next)
	}}
}

// loop is c, and then itself again, or nothing.
func loop(c code) code {
	return code{1 + c.size, func(l []api.Inst, next int) []api.Inst {
		return option(c, next).put(l, len(l))
	}}
}
