package sim

import (
	"fmt"
	"math/rand"
	"slices"
	"strings"

	"tidepole/api"
)

// of is the set of those bytes.
func of(l ...byte) api.Set {
	s := api.Set{}
	for _, b := range l {
		s[b>>6] |= 1 << (b & 63)
	}
	return s
}

// every is the set of all bytes.
func every() api.Set { return api.Set{1<<64 - 1, 1<<64 - 1, 1<<64 - 1, 1<<64 - 1} }

func has(s api.Set, b byte) bool { return s[b>>6]&(1<<(b&63)) != 0 }

func single(s api.Set) api.Re { return api.Re{Kind: 1, Set: s} }

func all(l ...api.Re) api.Re { return api.Re{Kind: 2, L: l} }

func one(l ...api.Re) api.Re { return api.Re{Kind: 3, L: l} }

func rep(from, to int, r api.Re) api.Re { return api.Re{Kind: 4, L: []api.Re{r}, Min: from, Max: to} }

// played is a program that runs, by the chapter's words: all is looked at again till nothing is new.
type played struct {
	l  []api.Inst
	at map[int]bool
}

func play(l []api.Inst) *played {
	p := &played{slices.Clone(l), map[int]bool{0: true}}
	p.settle()
	return p
}

func (p *played) settle() {
	for n := -1; n != len(p.at); {
		n = len(p.at)
		for k, x := range p.l {
			if p.at[k] && (x.Op == 2 || x.Op == 4) {
				p.at[x.X] = true
			}
			if p.at[k] && x.Op == 2 {
				p.at[x.Y] = true
			}
		}
	}
}

func (p *played) read(b byte) {
	next := map[int]bool{}
	for k, x := range p.l {
		if p.at[k] && x.Op == 1 && has(x.Set, b) {
			next[x.X] = true
		}
	}
	p.at = next
	p.settle()
}

func (p *played) accepts() bool {
	for k := range p.at {
		if p.l[k].Op == 3 {
			return true
		}
	}
	return false
}

// stands is where it stands, rising.
func (p *played) stands() []int {
	var out []int
	for k := range p.l {
		if p.at[k] {
			out = append(out, k)
		}
	}
	return out
}

// accepted is whether l accepts s, by the words.
func accepted(l []api.Inst, s string) bool {
	p := play(l)
	for k := range len(s) {
		p.read(s[k])
	}
	return p.accepts()
}

// places is what Ends must say, by the words: each piece of s is played from the beginning on.
func places(l []api.Inst, s string, from int) []int {
	var out []int
	for to := from; to <= len(s); to++ {
		if accepted(l, s[from:to]) {
			out = append(out, to)
		}
	}
	return out
}

// behind is all places up to which r means what stands in s from one of the places in from on.
func behind(r api.Re, s string, from []bool) []bool {
	out := make([]bool, len(s)+1)
	switch r.Kind {
	case 1:
		for k := range len(s) {
			out[k+1] = from[k] && has(r.Set, s[k])
		}
	case 2:
		copy(out, from)
		for _, x := range r.L {
			out = behind(x, s, out)
		}
	case 3:
		for _, x := range r.L {
			join(out, behind(x, s, from))
		}
	case 4:
		at := slices.Clone(from)
		for range r.Min {
			at = behind(r.L[0], s, at)
		}
		join(out, at)
		more := r.Max - r.Min
		if r.Max == -1 {
			more = len(s) + 1 // of more than that many texts one is empty, and may be left out
		}
		for range more {
			at = behind(r.L[0], s, at)
			join(out, at)
		}
	}
	return out
}

// join puts what is in l into out, too.
func join(out, l []bool) {
	for k, x := range l {
		out[k] = out[k] || x
	}
}

// meant is whether r means s, by the words.
func meant(r api.Re, s string) bool {
	from := make([]bool, len(s)+1)
	from[0] = true
	return behind(r, s, from)[len(s)]
}

// told is l as a text.
func told(l []api.Inst) string {
	out := []string{}
	for _, x := range l {
		out = append(out, fmt.Sprintf("%d/%x/%d/%d", x.Op, x.Set, x.X, x.Y))
	}
	return strings.Join(out, " ")
}

// drawnSet is a set of no byte, of all, or of some of a, b, c, 0 and 255.
func drawnSet(r *rand.Rand) api.Set {
	switch r.Intn(8) {
	case 0:
		return api.Set{}
	case 1:
		return every()
	}
	s := api.Set{}
	for _, b := range []byte{'a', 'b', 'c', 0, 255} {
		if r.Intn(5) < 3 {
			s[b>>6] |= 1 << (b & 63)
		}
	}
	return s
}

// drawnProg is a program that may be. It begins with a split, mostly, as it were dead soon without many places to stand at.
func drawnProg(r *rand.Rand, n int) []api.Inst {
	l := make([]api.Inst, n)
	for k := range l {
		switch r.Intn(9) {
		case 0:
			l[k] = api.Inst{Op: 3}
		case 1:
			l[k] = api.Inst{Op: 4, X: r.Intn(n)}
		case 2, 3, 4, 5:
			l[k] = api.Inst{Op: 2, X: r.Intn(n), Y: r.Intn(n)}
		default:
			l[k] = api.Inst{Op: 1, Set: drawnSet(r), X: r.Intn(n)}
		}
	}
	if r.Intn(5) > 0 {
		l[0] = api.Inst{Op: 2, X: r.Intn(n), Y: r.Intn(n)}
	}
	return l
}

// drawnText is at most most bytes of letters.
func drawnText(r *rand.Rand, letters string, most int) string {
	b := make([]byte, r.Intn(most+1))
	for k := range b {
		b[k] = letters[r.Intn(len(letters))]
	}
	return string(b)
}

// drawnRe is a Re that may be; most is the greatest Min and Max.
func drawnRe(r *rand.Rand, deep, most int) api.Re {
	kind := 1 + r.Intn(4)
	if deep == 0 {
		kind = 1 + r.Intn(3)
	}
	x := api.Re{Kind: kind}
	switch kind {
	case 1:
		x.Set = drawnSet(r)
	case 4:
		x = rep(r.Intn(most+1), -1, drawnRe(r, deep-1, most))
		if r.Intn(3) > 0 {
			x.Max = x.Min + r.Intn(most+1-x.Min)
		}
	default:
		for range min(deep, r.Intn(4)) {
			x.L = append(x.L, drawnRe(r, deep-1, most))
		}
	}
	return x
}

// drawnPattern is a pattern that may be.
func drawnPattern(r *rand.Rand, deep int) string {
	if deep == 0 {
		atoms := []string{"a", "b", "c", ".", "[ab]", "[^a]", "[b-c]", `\w`, `\W`, `\n`, `\x61`, ""}
		return atoms[r.Intn(len(atoms))]
	}
	bracket := func() string { return []string{"(", "(?:"}[r.Intn(2)] + drawnPattern(r, deep-1) + ")" }
	switch r.Intn(6) {
	case 0, 1:
		return bracket() + drawnPattern(r, deep-1)
	case 2:
		return drawnPattern(r, deep-1) + "|" + drawnPattern(r, deep-1)
	case 3:
		return drawnPattern(r, deep-1)
	}
	times := []string{"*", "+", "?", "{0}", "{1}", "{2}", "{0,}", "{2,}", "{0,2}", "{1,3}"}
	return bracket() + times[r.Intn(len(times))]
}
