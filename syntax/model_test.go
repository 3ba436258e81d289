package syntax

import (
	"fmt"
	"math/rand"
	"slices"
	"strings"
	"testing"

	"tidepole/api"
)

// of is a byte of those.
func of(l ...byte) api.Re {
	r := api.Re{Kind: 1}
	for _, b := range l {
		r.Set[b>>6] |= 1 << (b & 63)
	}
	return r
}

// those is a byte of those that f says.
func those(f func(b byte) bool) api.Re {
	var l []byte
	for b := range 256 {
		if f(byte(b)) {
			l = append(l, byte(b))
		}
	}
	return of(l...)
}

// not is a byte but those.
func not(l ...byte) api.Re { return those(func(b byte) bool { return !slices.Contains(l, b) }) }

func all(l ...api.Re) api.Re { return api.Re{Kind: 2, L: l} }

func one(l ...api.Re) api.Re { return api.Re{Kind: 3, L: l} }

func rep(from, to int, r api.Re) api.Re { return api.Re{Kind: 4, L: []api.Re{r}, Min: from, Max: to} }

// bytesOf is all of the text's bytes, one behind the other.
func bytesOf(s string) api.Re {
	var l []api.Re
	for k := range len(s) {
		l = append(l, of(s[k]))
	}
	if len(l) == 1 {
		return l[0]
	}
	return all(l...)
}

// told is all fields of r, as a text (a list without members is the same, nil or not).
func told(r api.Re) string {
	var l []string
	for _, x := range r.L {
		l = append(l, told(x))
	}
	return fmt.Sprintf("%d%x(%s)%d:%d", r.Kind, r.Set, strings.Join(l, " "), r.Min, r.Max)
}

// mustRead holds what s is read as against r.
func mustRead(t *testing.T, s string, want api.Re) {
	t.Helper()
	r, at, e := Parse(s)
	if told(r) != told(want) || at != 0 || e != api.OK {
		t.Errorf("Parse(%q): %s, %d, %v\nwant %s", s, told(r), at, e, told(want))
	}
	mustFollow(t, s)
}

// mustFail holds the place where s goes wrong against one.
func mustFail(t *testing.T, s string, place int) {
	t.Helper()
	r, at, e := Parse(s)
	if told(r) != told(api.Re{}) || at != place || e != api.ErrSyntax {
		t.Errorf("Parse(%q): %s, %d, %v, want nothing, %d, %v", s, told(r), at, e, place, api.ErrSyntax)
	}
	mustFollow(t, s)
}

// mustFollow holds against what follows: 10.4 and 10.6.
func mustFollow(t *testing.T, s string) {
	t.Helper()
	r, at, e := Parse(s)
	if at < 0 || at > len(s) {
		t.Errorf("Parse(%q): place %d", s, at)
	}
	if e == api.OK && (!Check(r) || !mayBe(r) || Size(r) != sizeOf(r) || Size(r) > 2*len(s)+1) {
		t.Errorf("Parse(%q): may be %v, %d Res of %d bytes", s, Check(r), Size(r), len(s))
	}
}

func sizeOf(r api.Re) int {
	n := 1
	for _, x := range r.L {
		n += sizeOf(x)
	}
	return n
}

func depthOf(r api.Re) int {
	n := 0
	for _, x := range r.L {
		n = max(n, depthOf(x))
	}
	return n + 1
}

// mayBe is 10.3 by its words, of an r that ends.
func mayBe(r api.Re) bool {
	for _, x := range r.L {
		if !mayBe(x) {
			return false
		}
	}
	empty := r.Set == api.Set{}
	own := false
	switch r.Kind {
	case 1:
		own = len(r.L) == 0 && r.Min == 0 && r.Max == 0
	case 2, 3:
		own = empty && r.Min == 0 && r.Max == 0
	case 4:
		own = empty && len(r.L) == 1 && r.Min >= 0 && r.Min <= 64 && r.Max <= 64 && (r.Max == -1 || r.Max >= r.Min)
	}
	return own && depthOf(r) <= 128 && sizeOf(r) <= 4096
}

// machine reads a pattern a byte at a time, by the grammar's words, and knows only whether it may go on.
type machine struct {
	state    string
	open     int
	start    int    // where what it is in began: {, or the first byte of a pair
	numbers  [2]int // of {m,n}; -1: none
	low      int    // the first byte of a pair, -1: none, or more than one
	pair     bool   // it is behind the - of one
	high     byte   // a digit to the base 16
	isClass  bool
	bad, end int // where it went wrong (-1: nowhere), how many bytes it read
}

const special = `\.[()*+?{}^$|`

// feed reads a byte; if it is told so, it goes wrong there.
func (m *machine) feed(b byte) {
	here := m.end
	m.end++
	if ok := b >= 32 && b <= 126 && m.step(b, here); !ok && m.bad < 0 {
		m.bad = here
	}
}

func (m *machine) step(b byte, here int) bool {
	switch m.state {
	case "open":
		if b == '?' {
			m.state = "mode"
			return true
		}
		return m.atom(b)
	case "mode":
		m.state = "begin"
		return b == ':'
	case "atom":
		if strings.IndexByte("*+?", b) >= 0 {
			m.state = "done"
			return true
		}
		if b == '{' {
			m.state, m.start, m.numbers = "first", here, [2]int{-1, -1}
			return true
		}
		return m.atom(b)
	case "begin", "done":
		return m.atom(b)
	case "first", "second":
		return m.number(b)
	case "escape":
		return m.escape(b)
	case "x", "xx":
		return m.hex(b)
	}
	return m.class(b, here)
}

func (m *machine) atom(b byte) bool {
	switch b {
	case '(':
		m.open++
		m.state = "open"
		return m.open <= 32
	case ')':
		m.open--
		m.state = "atom"
		return m.open >= 0
	case '|':
		m.state = "begin"
	case '[':
		m.state, m.isClass, m.low, m.pair = "class", true, -1, false
	case '\\':
		m.state, m.isClass = "escape", false
	default:
		m.state = "atom"
		return b == '.' || strings.IndexByte(special, b) < 0
	}
	return true
}

func (m *machine) number(b byte) bool {
	k := 0
	if m.state == "second" {
		k = 1
	}
	n := m.numbers[k]
	switch {
	case b >= '0' && b <= '9':
		if n == 0 || n > 9 {
			return false
		}
		m.numbers[k] = max(n, 0)*10 + int(b-'0')
		return true
	case b == ',' && k == 0 && n >= 0:
		m.state = "second"
		return true
	case b == '}' && m.numbers[0] >= 0:
		m.state = "done"
		if m.numbers[0] > 64 || m.numbers[1] > 64 || n < m.numbers[0] && n >= 0 {
			m.bad = m.start
		}
		return true
	}
	return false
}

// single is behind a byte of its own, outside a class or in it.
func (m *machine) single(b byte) bool {
	switch {
	case !m.isClass:
		m.state = "atom"
	case m.pair:
		m.state, m.pair = "items", false
		if m.low > int(b) {
			m.bad = m.start
		}
		m.low = -1
	default:
		m.state, m.low = "items", int(b)
	}
	return true
}

func (m *machine) escape(b byte) bool {
	switch {
	case b == 'x':
		m.state = "x"
		return true
	case b == 'n':
		return m.single(10)
	case b == 't':
		return m.single(9)
	case strings.IndexByte(`\.[]()*+?{}^$-/|`, b) >= 0:
		return m.single(b)
	case strings.IndexByte("dwsDWS", b) >= 0 && m.isClass:
		m.state, m.low = "items", -1
		return !m.pair
	}
	m.state = "atom"
	return strings.IndexByte("dwsDWS", b) >= 0
}

func (m *machine) hex(b byte) bool {
	k := strings.IndexByte("0123456789abcdefABCDEF", b)
	if k < 0 {
		return false
	}
	if k > 15 {
		k -= 6
	}
	if m.state == "x" {
		m.state, m.high = "xx", byte(k)
		return true
	}
	return m.single(m.high*16 + byte(k))
}

// class is within [ and ]: "class" behind [, "none" behind [^, "items" behind an item.
func (m *machine) class(b byte, here int) bool {
	switch {
	case b == '^' && m.state == "class":
		m.state = "none"
		return true
	case b == '-' && m.low >= 0 && !m.pair:
		m.pair = true
		return true
	case b == ']' && m.state == "items" && !m.pair:
		m.state = "atom"
		return true
	case b == '-' || b == ']' || b == '[':
		return false
	}
	if !m.pair {
		m.start, m.low = here, -1
	}
	if b == '\\' {
		m.state = "escape"
		return true
	}
	return m.single(b)
}

// wrong is the place where s goes wrong by the machine, -1: nowhere.
func wrong(s string) int {
	m := machine{state: "begin", bad: -1}
	for k := range len(s) {
		m.feed(s[k])
		if m.bad >= 0 {
			return m.bad
		}
	}
	if m.open > 0 || !slices.Contains([]string{"begin", "atom", "done"}, m.state) {
		return len(s)
	}
	return -1
}

// mustGo holds the place that Parse tells against the machine's.
func mustGo(t *testing.T, s string) {
	t.Helper()
	if want := wrong(s); want >= 0 {
		mustFail(t, s, want)
	} else if _, at, e := Parse(s); at != 0 || e != api.OK {
		t.Errorf("Parse(%q): %d, %v, want no error", s, at, e)
	} else {
		mustFollow(t, s)
	}
}

// drawer draws right patterns, each with what it stands for.
type drawer struct {
	*rand.Rand
	deep int // how many brackets more
}

func (d drawer) alternation() (string, api.Re) {
	n := 1
	if d.Intn(3) == 0 {
		n += d.Intn(3)
	}
	var s []string
	var l []api.Re
	for range n {
		x, r := d.sequence()
		s, l = append(s, x), append(l, r)
	}
	if n == 1 {
		return s[0], l[0]
	}
	return strings.Join(s, "|"), one(l...)
}

func (d drawer) sequence() (string, api.Re) {
	n := d.Intn(4)
	s := ""
	var l []api.Re
	for range n {
		x, r := d.piece()
		s, l = s+x, append(l, r)
	}
	if n == 1 {
		return s, l[0]
	}
	return s, all(l...)
}

func (d drawer) piece() (string, api.Re) {
	s, r := d.atom()
	m := d.Intn(65)
	n := m + d.Intn(65-m)
	switch d.Intn(12) {
	case 0:
		return s + "*", rep(0, -1, r)
	case 1:
		return s + "+", rep(1, -1, r)
	case 2:
		return s + "?", rep(0, 1, r)
	case 3:
		return s + fmt.Sprintf("{%d}", m), rep(m, m, r)
	case 4:
		return s + fmt.Sprintf("{%d,}", m), rep(m, -1, r)
	case 5:
		return s + fmt.Sprintf("{%d,%d}", m, n), rep(m, n, r)
	}
	return s, r
}

func (d drawer) atom() (string, api.Re) {
	switch d.Intn(6) {
	case 0:
		return ".", not(10)
	case 1:
		return d.class()
	case 2:
		if d.deep > 0 {
			s, r := drawer{d.Rand, d.deep - 1}.alternation()
			return []string{"(", "(?:"}[d.Intn(2)] + s + ")", r
		}
	case 3:
		return d.escape()
	}
	s, b := d.byteBut(special)
	return s, of(b)
}

// byteBut is a byte that stands for itself, and is none of those.
func (d drawer) byteBut(l string) (string, byte) {
	for {
		if b := byte(32 + d.Intn(95)); strings.IndexByte(l, b) < 0 {
			return string(b), b
		}
	}
}

func (d drawer) class() (string, api.Re) {
	s, set := "[", map[byte]bool{}
	inverse := d.Intn(3) == 0
	if inverse {
		s += "^"
	}
	for k := range 1 + d.Intn(4) {
		var x string
		var r api.Re
		if d.Intn(4) == 0 {
			x, r = d.escape()
		} else if low, high := d.member(k == 0 && !inverse), d.member(false); d.Intn(2) == 0 && low.b <= high.b {
			x, r = low.s+"-"+high.s, those(func(b byte) bool { return b >= low.b && b <= high.b })
		} else {
			x, r = low.s, of(low.b)
		}
		s += x
		for b := range 256 {
			if r.Set[b/64]>>(b%64)&1 == 1 {
				set[byte(b)] = true
			}
		}
	}
	return s + "]", those(func(b byte) bool { return set[b] != inverse })
}

type member struct {
	s string
	b byte
}

// member is a byte in a class, as it is or escaped.
func (d drawer) member(first bool) member {
	if d.Intn(3) == 0 {
		s, b := d.escapedByte()
		return member{s, b}
	}
	l := `\][-`
	if first {
		l += "^"
	}
	s, b := d.byteBut(l)
	return member{s, b}
}

func (d drawer) escape() (string, api.Re) {
	many := func(c byte) api.Re {
		return those(func(b byte) bool {
			word := b == '_' || b >= 'a' && b <= 'z' || b >= 'A' && b <= 'Z'
			digit := b >= '0' && b <= '9'
			switch c | 32 {
			case 'd':
				return digit == (c == 'd')
			case 'w':
				return (word || digit) == (c == 'w')
			}
			return slices.Contains([]byte{9, 10, 12, 13, 32}, b) == (c == 's')
		})
	}
	if d.Intn(2) == 0 {
		c := "dwsDWS"[d.Intn(6)]
		return `\` + string(c), many(c)
	}
	s, b := d.escapedByte()
	return s, of(b)
}

func (d drawer) escapedByte() (string, byte) {
	switch d.Intn(4) {
	case 0:
		return `\n`, 10
	case 1:
		return `\t`, 9
	case 2:
		b := byte(d.Intn(256))
		return fmt.Sprintf([]string{`\x%02x`, `\x%02X`}[d.Intn(2)], b), b
	}
	l := `\.[]()*+?{}^$-/|`
	b := l[d.Intn(len(l))]
	return `\` + string(b), b
}

// drawn is a right pattern that is not too long, and what it stands for.
func drawn(r *rand.Rand) (string, api.Re) {
	for {
		if s, x := (drawer{r, r.Intn(6)}).alternation(); len(s) <= 256 {
			return s, x
		}
	}
}
