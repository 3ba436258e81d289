package syntax

import "tidepole/api"

const (
	lowest  = 32 // of the bytes of a pattern
	highest = 126
	maxOpen = 32 // brackets one within another
)

// parser is a closure over its place in s: it goes on from there, and answers what s stands for, the place that it came to, and whether that is the end; if it is not, s goes wrong there.
func parser(s string) func() (api.Re, int, bool) {
	at, open, right := 0, 0, true // once it is not right, at is where it goes wrong, and stays
	var alternation func() api.Re
	brackets := func() (r api.Re) {
		if open++; open > maxOpen {
			right = false
			return r
		}
		if at, right = openingAt(s, at); right {
			r = alternation()
		}
		if right = right && byteAt(s, at) == ')'; right {
			at++
			open--
		}
		return r
	}
	atom := func() (r api.Re) {
		if byteAt(s, at) == '(' {
			return brackets()
		}
		r.Kind = oneByte
		r.Set, at, right = setAt(s, at)
		return r
	}
	piece := func() api.Re {
		r := atom()
		if !right {
			return r
		}
		var x api.Re
		if x, at, right = timesAt(s, at); x.Kind == times {
			x.L = []api.Re{r}
			return x
		}
		return r
	}
	sequence := func() api.Re {
		var l []api.Re
		for right && at < len(s) && s[at] != '|' && s[at] != ')' {
			l = append(l, piece())
		}
		return together(allOf, l)
	}
	alternation = func() api.Re {
		l := []api.Re{sequence()}
		for right && byteAt(s, at) == '|' {
			at++
			l = append(l, sequence())
		}
		return together(oneOf, l)
	}
	return func() (api.Re, int, bool) {
		r := alternation()
		return r, at, right && at == len(s)
	}
}

// together is the Re of that Kind of all of l; what is alone is it.
func together(kind int, l []api.Re) api.Re {
	if len(l) == 1 {
		return l[0]
	}
	return api.Re{Kind: kind, L: l}
}

// All functions below read something that begins at the place at, and answer the place behind it, or, with false, the place where it goes wrong.

// byteAt is 0 behind the end of s: a byte that stands nowhere in a right pattern.
func byteAt(s string, at int) byte {
	if at >= len(s) {
		return 0
	}
	return s[at]
}

// openingAt goes behind ( or (?:.
func openingAt(s string, at int) (int, bool) {
	if byteAt(s, at+1) != '?' {
		return at + 1, true
	}
	if byteAt(s, at+2) != ':' {
		return at + 2, false
	}
	return at + 3, true
}

// timesAt is a Re of Kind 4, without its member, or none, if nothing is said of times.
func timesAt(s string, at int) (api.Re, int, bool) {
	r := api.Re{Kind: times}
	switch byteAt(s, at) {
	case '{':
		return countsAt(s, at)
	case '?':
		r.Max = 1
	case '+':
		r.Min = 1
		fallthrough
	case '*':
		r.Max = noEnd
	default:
		return api.Re{}, at, true
	}
	return r, at + 1, true
}

// countsAt reads {m}, {m,} or {m,n}.
func countsAt(s string, at int) (api.Re, int, bool) {
	from, next, ok := numberAt(s, at+1)
	to := from
	if ok && byteAt(s, next) == ',' {
		next++
		to = noEnd
		if byteAt(s, next) != '}' {
			to, next, ok = numberAt(s, next)
		}
	}
	if !ok || byteAt(s, next) != '}' {
		return api.Re{}, next, false
	}
	if !areTimes(from, to) {
		return api.Re{}, at, false
	}
	return api.Re{Kind: times, Min: from, Max: to}, next + 1, true
}

// numberAt reads one digit, or two, the first one not 0.
func numberAt(s string, at int) (int, int, bool) {
	c := byteAt(s, at)
	if !isDigit(c) {
		return 0, at, false
	}
	n, next := int(c-'0'), at+1
	if d := byteAt(s, next); n > 0 && isDigit(d) {
		n, next = n*10+int(d-'0'), next+1
	}
	return n, next, true
}

// setAt reads any atom but brackets.
func setAt(s string, at int) (api.Set, int, bool) {
	c := byteAt(s, at)
	switch c {
	case '.':
		return others(span('\n', '\n')), at + 1, true
	case '[':
		return classAt(s, at)
	case '\\':
		return escapeAt(s, at)
	case '(', ')', '*', '+', '?', '{', '}', '^', '$', '|':
		return api.Set{}, at, false
	}
	return plainAt(s, at)
}

// plainAt reads a byte that stands for itself, if it may be in a pattern at all.
func plainAt(s string, at int) (api.Set, int, bool) {
	c := byteAt(s, at)
	if c < lowest || c > highest {
		return api.Set{}, at, false
	}
	return span(c, c), at + 1, true
}

// classAt reads a class, from its [ on.
func classAt(s string, at int) (api.Set, int, bool) {
	at++
	inverse := byteAt(s, at) == '^'
	if inverse {
		at++
	}
	set, at, ok := itemAt(s, at)
	for ok && byteAt(s, at) != ']' {
		var item api.Set
		item, at, ok = itemAt(s, at)
		set = union(set, item)
	}
	if !ok {
		return api.Set{}, at, false
	}
	if inverse {
		set = others(set)
	}
	return set, at + 1, true
}

// itemAt reads one item of a class: a pair, or what stands alone.
func itemAt(s string, at int) (api.Set, int, bool) {
	first, dash, ok := memberAt(s, at)
	if !ok || byteAt(s, dash) != '-' {
		return first, dash, ok
	}
	low, single := onlyByte(first)
	if !single {
		return api.Set{}, dash, false
	}
	second, next, ok := memberAt(s, dash+1)
	if !ok {
		return api.Set{}, next, false
	}
	high, single := onlyByte(second)
	if !single {
		return api.Set{}, dash + 2, false // it is the byte behind \ that goes wrong
	}
	if low > high {
		return api.Set{}, at, false
	}
	return span(low, high), next, true
}

// memberAt reads what may stand in a class alone, or on a side of a pair.
func memberAt(s string, at int) (api.Set, int, bool) {
	switch byteAt(s, at) {
	case '\\':
		return escapeAt(s, at)
	case ']', '[', '-':
		return api.Set{}, at, false
	}
	return plainAt(s, at)
}

// escapeAt reads an escape, from its \ on.
func escapeAt(s string, at int) (api.Set, int, bool) {
	c := byteAt(s, at+1)
	if c == 'x' {
		return hexAt(s, at+2)
	}
	set, ok := escaped(c)
	if !ok {
		return api.Set{}, at + 1, false
	}
	return set, at + 2, true
}

// escaped is what \ and c stand for.
func escaped(c byte) (set api.Set, ok bool) {
	inverse := false
	switch c {
	case '\\', '.', '[', ']', '(', ')', '*', '+', '?', '{', '}', '^', '$', '-', '/', '|':
		set = span(c, c)
	case 'n':
		set = span('\n', '\n')
	case 't':
		set = span('\t', '\t')
	case 'D':
		inverse = true
		fallthrough
	case 'd':
		set = span('0', '9')
	case 'W':
		inverse = true
		fallthrough
	case 'w':
		set = union(span('A', 'Z'), span('a', 'z'), span('0', '9'), span('_', '_'))
	case 'S':
		inverse = true
		fallthrough
	case 's':
		set = union(span('\t', '\n'), span('\f', '\r'), span(' ', ' '))
	default:
		return api.Set{}, false
	}
	if inverse {
		set = others(set)
	}
	return set, true
}

// hexAt reads two digits to the base 16.
func hexAt(s string, at int) (api.Set, int, bool) {
	high, ok := hexDigit(byteAt(s, at))
	if !ok {
		return api.Set{}, at, false
	}
	low, ok := hexDigit(byteAt(s, at+1))
	if !ok {
		return api.Set{}, at + 1, false
	}
	return span(high*16+low, high*16+low), at + 2, true
}

func hexDigit(c byte) (byte, bool) {
	if isDigit(c) {
		return c - '0', true
	}
	if c >= 'a' && c <= 'f' {
		return c - 'a' + 10, true
	}
	if c >= 'A' && c <= 'F' {
		return c - 'A' + 10, true
	}
	return 0, false
}

func isDigit(c byte) bool { return c >= '0' && c <= '9' }

func isLetter(c byte) bool { return c >= 'a' && c <= 'z' || c >= 'A' && c <= 'Z' }
