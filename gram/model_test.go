package gram

import (
	"fmt"
	"maps"
	"math/rand"
	"slices"
	"strings"

	"tidepole/api"
	"tidepole/post"
)

// set is the set of those bytes.
func set(l ...byte) api.Set {
	s := api.Set{}
	for _, b := range l {
		s[b>>6] |= 1 << (b & 63)
	}
	return s
}

// some is a byte of n, from first on.
func some(first byte, n int) api.Re {
	var l []byte
	for k := range n {
		l = append(l, first+byte(k))
	}
	return of(l...)
}

func of(l ...byte) api.Re { return api.Re{Kind: 1, Set: set(l...)} }

func has(s api.Set, b byte) bool { return s[b>>6]&(1<<(b&63)) != 0 }

// anyByte is a byte that has no texts to tell.
func anyByte() api.Re {
	return api.Re{Kind: 1, Set: api.Set{1<<64 - 1, 1<<64 - 1, 1<<64 - 1, 1<<64 - 1}}
}

func each(l ...api.Re) api.Re { return api.Re{Kind: 2, L: l} }

func one(l ...api.Re) api.Re { return api.Re{Kind: 3, L: l} }

func rep(from, to int, r api.Re) api.Re { return api.Re{Kind: 4, L: []api.Re{r}, Min: from, Max: to} }

// lit is the bytes of s, one behind the other.
func lit(s string) api.Re {
	r := each()
	for k := range len(s) {
		r.L = append(r.L, of(s[k]))
	}
	return r
}

func everything() Query { return Query{Op: 0} }

func nothing() Query { return Query{Op: 1} }

func three(s string) Query { return Query{Op: 2, Text: s} }

func allIn(l ...Query) Query { return Query{Op: 3, L: l} }

func oneIn(l ...Query) Query { return Query{Op: 4, L: l} }

// gramsBy is the grams of s, by the words.
func gramsBy(s string) []string {
	l := map[string]bool{}
	for k := 0; k+3 <= len(s); k++ {
		l[s[k:k+3]] = true
	}
	return slices.Sorted(maps.Keys(l))
}

// sizeBy is how many queries q is, and depthBy how many stand in one another.
func sizeBy(q Query) int {
	n := 1
	for _, x := range q.L {
		n += sizeBy(x)
	}
	return n
}

func depthBy(q Query) int {
	n := 0
	for _, x := range q.L {
		n = max(n, depthBy(x))
	}
	return n + 1
}

// mayBe is whether q may be, by the words.
func mayBe(q Query) bool { return partsMayBe(q) && sizeBy(q) <= 4096 && depthBy(q) <= 8 }

func partsMayBe(q Query) bool {
	for _, x := range q.L {
		if !partsMayBe(x) {
			return false
		}
	}
	switch q.Op {
	case 0, 1:
		return q.Text == "" && len(q.L) == 0
	case 2:
		return len(q.Text) == 3 && len(q.L) == 0
	case 3, 4:
		return q.Text == ""
	}
	return false
}

// sameQuery is whether two queries are the same, part by part (a list without members is the same, nil or not).
func sameQuery(a, b Query) bool {
	return a.Op == b.Op && a.Text == b.Text && slices.EqualFunc(a.L, b.L, sameQuery)
}

// textBy is q as a text, by the words.
func textBy(q Query) string {
	var l []string
	for _, x := range q.L {
		l = append(l, textBy(x))
	}
	switch q.Op {
	case 0:
		return "*"
	case 1:
		return "-"
	case 2:
		return "|" + q.Text + "|"
	case 3:
		return "(" + strings.Join(l, " ") + ")"
	}
	return "[" + strings.Join(l, " ") + "]"
}

// fitsBy is whether what has some grams fits q, by the words.
func fitsBy(q Query, hasGram func(string) bool) bool {
	switch q.Op {
	case 0:
		return true
	case 2:
		return hasGram(q.Text)
	case 3:
		for _, x := range q.L {
			if !fitsBy(x, hasGram) {
				return false
			}
		}
		return true
	case 4:
		for _, x := range q.L {
			if fitsBy(x, hasGram) {
				return true
			}
		}
	}
	return false
}

// fitsText is whether s fits q, by the words.
func fitsText(q Query, s string) bool {
	return fitsBy(q, func(g string) bool { return strings.Contains(s, g) })
}

// putTogether is l put together by Op 3 or Op 4, step by step as the words go.
func putTogether(op int, l []Query) Query {
	gone, ruling := 0, 1
	if op == 4 {
		gone, ruling = 1, 0
	}
	var opened []Query
	for _, q := range l {
		if q.Op == op {
			opened = append(opened, q.L...)
		} else {
			opened = append(opened, q)
		}
	}
	var left []Query
	for _, q := range opened {
		if q.Op != gone && !slices.ContainsFunc(left, func(x Query) bool { return sameQuery(q, x) }) {
			left = append(left, q)
		}
	}
	for _, q := range left {
		if q.Op == ruling {
			return q
		}
	}
	if len(left) == 0 {
		return Query{Op: gone}
	}
	if len(left) == 1 {
		return left[0]
	}
	return Query{Op: op, L: left}
}

// texts is a set of texts.
type texts map[string]bool

// tooMany is whether they can't be told any more.
func (x texts) tooMany() bool {
	for s := range x {
		if len(s) > 32 {
			return true
		}
	}
	return len(x) > 32
}

func (x texts) sorted() []string { return slices.Sorted(maps.Keys(x)) }

// textsBy is the texts of r, and whether it has any to tell, by the words.
func textsBy(r api.Re) (texts, bool) {
	out := texts{}
	switch r.Kind {
	case 1:
		for b := range 256 {
			if has(r.Set, byte(b)) {
				out[string([]byte{byte(b)})] = true
			}
		}
		return out, len(out) <= 8
	case 2:
		return behindBy(r.L)
	case 3:
		for _, x := range r.L {
			l, ok := textsBy(x)
			if !ok {
				return nil, false
			}
			maps.Copy(out, l)
			if out.tooMany() {
				return nil, false
			}
		}
		return out, true
	}
	if r.Min != r.Max {
		return nil, false
	}
	var l []api.Re
	for range r.Min {
		l = append(l, r.L[0])
	}
	return behindBy(l)
}

// behindBy is the texts of all of l.
func behindBy(l []api.Re) (texts, bool) {
	out := texts{"": true}
	for _, x := range l {
		behind, ok := textsBy(x)
		if !ok {
			return nil, false
		}
		next := texts{}
		for a := range out {
			for b := range behind {
				next[a+b] = true
			}
		}
		if next.tooMany() {
			return nil, false
		}
		out = next
	}
	return out, true
}

// asked is the query of texts, by the words.
func asked(x texts) Query {
	var l []Query
	for _, s := range x.sorted() {
		var g []Query
		for _, t := range gramsBy(s) {
			g = append(g, three(t))
		}
		l = append(l, putTogether(3, g))
	}
	return putTogether(4, l)
}

// queryBy is the query of r, by the words: each part is looked at as often as it is asked for.
func queryBy(r api.Re) Query {
	if l, ok := textsBy(r); ok {
		return asked(l)
	}
	var l []Query
	switch r.Kind {
	case 1:
		return everything()
	case 2:
		for left := r.L; len(left) > 0; {
			n := 0
			for n < len(left) {
				if _, ok := behindBy(left[:n+1]); !ok {
					break
				}
				n++
			}
			if n == 0 {
				l, left = append(l, queryBy(left[0])), left[1:]
				continue
			}
			x, _ := behindBy(left[:n])
			l, left = append(l, asked(x)), left[n:]
		}
		return putTogether(3, l)
	case 3:
		for _, x := range r.L {
			l = append(l, queryBy(x))
		}
		return putTogether(4, l)
	}
	if r.Min == 0 {
		return everything()
	}
	return queryBy(r.L[0])
}

// toldRe is all fields of r.
func toldRe(r api.Re) string {
	var l []string
	for _, x := range r.L {
		l = append(l, toldRe(x))
	}
	return fmt.Sprintf("%d/%x(%s)%d:%d", r.Kind, r.Set, strings.Join(l, " "), r.Min, r.Max)
}

// drawnSet is a set of one byte, mostly, of some, of none, or of too many.
func drawnSet(r *rand.Rand) api.Set {
	switch r.Intn(30) {
	case 0:
		return api.Set{}
	case 1:
		return some('a', 9).Set
	case 2:
		return some('a', 8).Set
	case 3, 4:
		return anyByte().Set
	case 5, 6, 7:
		return set('a', 'b')
	case 8:
		return set('a', 0, 255)
	}
	return set("aabbcd\x00\xff"[r.Intn(8)])
}

// drawnRe is a Re that may be.
func drawnRe(r *rand.Rand, deep int) api.Re {
	kind := []int{1, 2, 2, 2, 2, 3, 3, 4}[r.Intn(8)]
	if deep == 0 {
		kind = []int{1, 2, 2, 2}[r.Intn(4)]
	}
	switch kind {
	case 1:
		return api.Re{Kind: 1, Set: drawnSet(r)}
	case 4:
		from := []int{0, 1, 1, 2, 3, 7}[r.Intn(6)]
		to := []int{from, from, from, -1, from + r.Intn(3)}[r.Intn(5)]
		return rep(from, to, drawnRe(r, deep-1))
	}
	x := api.Re{Kind: kind}
	n := 1 + r.Intn(5)
	if r.Intn(12) == 0 {
		n = 0
	}
	for range n {
		if deep == 0 {
			x.L = append(x.L, api.Re{Kind: 1, Set: drawnSet(r)})
		} else {
			x.L = append(x.L, drawnRe(r, r.Intn(deep)))
		}
	}
	return x
}

// drawnMeant is a text that x means, if it can be had.
func drawnMeant(r *rand.Rand, x api.Re) (string, bool) {
	switch x.Kind {
	case 1:
		var l []byte
		for b := range 256 {
			if has(x.Set, byte(b)) {
				l = append(l, byte(b))
			}
		}
		if len(l) == 0 {
			return "", false
		}
		return string([]byte{l[r.Intn(len(l))]}), true
	case 3:
		for _, k := range r.Perm(len(x.L)) {
			if s, ok := drawnMeant(r, x.L[k]); ok {
				return s, true
			}
		}
		return "", false
	case 4:
		n := x.Min + r.Intn(3)
		if x.Max >= 0 {
			n = x.Min + r.Intn(min(3, x.Max-x.Min+1))
		}
		return drawnBehind(r, slices.Repeat(x.L, n))
	}
	return drawnBehind(r, x.L)
}

func drawnBehind(r *rand.Rand, l []api.Re) (string, bool) {
	out := ""
	for _, x := range l {
		s, ok := drawnMeant(r, x)
		if !ok {
			return "", false
		}
		out += s
	}
	return out, true
}

// drawnText is at most most bytes, few of them others than a and b.
func drawnText(r *rand.Rand, most int) string {
	b := make([]byte, r.Intn(most+1))
	for k := range b {
		b[k] = "aaaaaabbbbbbcd\x00\xff"[r.Intn(16)]
	}
	return string(b)
}

// drawnQuery is a query that may be, of all Ops in all places.
func drawnQuery(r *rand.Rand, deep int) Query {
	op := []int{0, 1, 2, 2, 3, 3, 3, 4, 4, 4}[r.Intn(10)]
	if deep == 1 {
		op = []int{0, 1, 2, 2, 2, 2, 3, 4}[r.Intn(8)]
	}
	q := Query{Op: op}
	if op == 2 {
		for len(q.Text) != 3 {
			q.Text = drawnText(r, 3)
		}
	}
	if op > 2 && deep > 1 {
		for range r.Intn(4) {
			q.L = append(q.L, drawnQuery(r, deep-1))
		}
	}
	return q
}

// spoil changes all of q, and the room behind its lists.
func spoil(q Query) {
	l := q.L[:cap(q.L)]
	for k := range l {
		spoil(l[k])
		l[k] = Query{Op: 7, Text: "spoilt", L: []Query{{Op: 9}}}
	}
}

// cloned is q with lists of its own.
func cloned(q Query) Query {
	l := slices.Clone(q.L)
	for k := range l {
		l[k] = cloned(l[k])
	}
	q.L = l
	return q
}

// indexOf has, by each gram, the numbers of the texts that have it; a text's number is its place, times step.
func indexOf(l []string, step uint64) *post.Index {
	x := post.New()
	for n, s := range l {
		for _, g := range gramsBy(s) {
			x.Put(g, uint64(n)*step)
		}
	}
	return x
}
