package gram

import (
	"iter"
	"slices"

	"tidepole/api"
	"tidepole/syntax"
)

// The Kinds of an api.Re that has members.
const (
	kindAllOf = 2
	kindOneOf = 3
	kindTimes = 4
)

// The bounds of texts that can be told.
const (
	maxSet    = 8  // bytes of a Set
	maxTexts  = 32 // texts of a part
	maxLength = 32 // bytes of a text
)

// part is what is known of a part of a pattern: its texts, if they can be told, or else its query. Both come from the parts in it, so that each one is looked at once.
type part struct {
	isTold bool
	texts  []string // rising
	query  Query
}

// ask is the query of p.
func (p part) ask() Query {
	if p.isTold {
		return queryOf(p.texts)
	}
	return p.query
}

// queryOf is the query of texts.
func queryOf(texts []string) Query {
	var l []Query
	for _, s := range texts {
		var asked []Query
		for _, g := range Grams(s) {
			asked = append(asked, Query{Op: opGram, Text: g})
		}
		l = append(l, together(opAllOf, asked))
	}
	return together(opOneOf, l)
}

// partOf is the part that is all of r, which may be.
func partOf(r api.Re) part {
	var l []part
	for _, member := range r.L {
		l = append(l, partOf(member))
	}
	switch r.Kind {
	case kindAllOf:
		return allOf(l)
	case kindOneOf:
		return oneOf(l)
	case kindTimes:
		return repeated(l[0], r.Min, r.Max)
	}
	return partOfSet(r.Set)
}

// partOfSet is the part that is a byte of s.
func partOfSet(s api.Set) part {
	var l []string
	for b := range 256 {
		if syntax.Has(s, byte(b)) {
			l = append(l, string([]byte{byte(b)}))
		}
	}
	if len(l) > maxSet {
		return part{query: Query{Op: opAll}}
	}
	return part{isTold: true, texts: l}
}

// allOf is the part of all of l, one behind the other.
func allOf(l []part) part {
	if texts, n := longest(l); n == len(l) {
		return part{isTold: true, texts: texts}
	}
	var asked []Query
	for len(l) > 0 {
		texts, n := longest(l)
		if n == 0 {
			asked, l = append(asked, l[0].query), l[1:]
			continue
		}
		asked, l = append(asked, queryOf(texts)), l[n:]
	}
	return part{query: together(opAllOf, asked)}
}

// longest is the texts of as many of l, from the first one on, as can be told together, and how many these are.
func longest(l []part) ([]string, int) {
	texts := []string{""}
	for n, p := range l {
		if !p.isTold {
			return texts, n
		}
		more, ok := bounded(joined(texts, p.texts))
		if !ok {
			return texts, n
		}
		texts = more
	}
	return texts, len(l)
}

// oneOf is the part of one of l.
func oneOf(l []part) part {
	if texts, ok := united(l); ok {
		return part{isTold: true, texts: texts}
	}
	var asked []Query
	for _, p := range l {
		asked = append(asked, p.ask())
	}
	return part{query: together(opOneOf, asked)}
}

// united is the texts of all of l, if they can be told.
func united(l []part) ([]string, bool) {
	var texts []string
	for _, p := range l {
		if !p.isTold {
			return nil, false
		}
		texts = append(texts, p.texts...)
	}
	return bounded(slices.Values(texts))
}

// repeated is the part of p, from so many times to so many.
func repeated(p part, from, to int) part {
	if from == to {
		if texts, n := longest(slices.Repeat([]part{p}, from)); n == from {
			return part{isTold: true, texts: texts}
		}
	}
	if from == 0 {
		return part{query: Query{Op: opAll}}
	}
	return part{query: p.ask()}
}

// joined gives each text of l with each one of behind behind it.
func joined(l, behind []string) iter.Seq[string] {
	return func(yield func(string) bool) {
		for _, a := range l {
			for _, b := range behind {
				if !yield(a + b) {
					return
				}
			}
		}
	}
}

// bounded is the texts that l gives, rising, each once, if they are not too many, and none is too long.
func bounded(l iter.Seq[string]) ([]string, bool) {
	var out []string
	for s := range distinct(l, itself) {
		if len(s) > maxLength || len(out) == maxTexts {
			return nil, false
		}
		out = append(out, s)
	}
	slices.Sort(out)
	return out, true
}
