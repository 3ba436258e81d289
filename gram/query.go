package gram

import (
	"iter"
	"strings"
)

// The Ops of a Query.
const (
	opAll   = 0
	opNone  = 1
	opGram  = 2
	opAllOf = 3
	opOneOf = 4
)

const maxDeep = 8 // queries one within another, the outermost one among them

// within gives q and all queries in it, each ahead of its members, with how deep it stands: q at 1.
func within(q Query) iter.Seq2[int, Query] {
	return func(yield func(int, Query) bool) {
		var give func(deep int, x Query) bool
		give = func(deep int, x Query) bool {
			if !yield(deep, x) {
				return false
			}
			for _, member := range x.L {
				if !give(deep+1, member) {
					return false
				}
			}
			return true
		}
		give(1, q)
	}
}

// isFit tells whether q's own fields may be, whatever its members are.
func isFit(q Query) bool {
	switch q.Op {
	case opAll, opNone:
		return q.Text == "" && len(q.L) == 0
	case opGram:
		return len(q.Text) == gramBytes && len(q.L) == 0
	case opAllOf, opOneOf:
		return q.Text == ""
	}
	return false
}

// together is l put together by op, opAllOf or opOneOf. Members of l that are put together themselves have none of their own Op in them, so these are opened just once.
func together(op int, l []Query) Query {
	goes, rules := opAll, opNone
	if op == opOneOf {
		goes, rules = rules, goes
	}
	var left []Query
	for q := range distinct(opened(op, l), told) {
		switch q.Op {
		case rules:
			return q
		case goes:
		default:
			left = append(left, q)
		}
	}
	switch len(left) {
	case 0:
		return Query{Op: goes}
	case 1:
		return left[0]
	}
	return Query{Op: op, L: left}
}

// opened gives those of l, of those of the Op op their members.
func opened(op int, l []Query) iter.Seq[Query] {
	return func(yield func(Query) bool) {
		for _, q := range l {
			members := []Query{q}
			if q.Op == op {
				members = q.L
			}
			for _, member := range members {
				if !yield(member) {
					return
				}
			}
		}
	}
}

// told is q as a text, however great q is. Different queries, if all grams in them have three bytes, are different texts.
func told(q Query) string {
	var out strings.Builder
	tell(&out, q)
	return out.String()
}

func tell(out *strings.Builder, q Query) {
	switch q.Op {
	case opAll:
		out.WriteByte('*')
	case opNone:
		out.WriteByte('-')
	case opGram:
		out.WriteString("|" + q.Text + "|")
	case opAllOf:
		tellList(out, '(', q.L, ')')
	case opOneOf:
		tellList(out, '[', q.L, ']')
	}
}

func tellList(out *strings.Builder, opening byte, l []Query, closing byte) {
	out.WriteByte(opening)
	for k, q := range l {
		if k > 0 {
			out.WriteByte(' ')
		}
		tell(out, q)
	}
	out.WriteByte(closing)
}
