package syntax

import (
	"fmt"
	"math"
	"math/rand"
	"slices"
	"strings"
	"testing"

	"tidepole/api"
)

// chain is a byte within sequences, n deep in all.
func chain(n int) api.Re {
	r := of('a')
	for range n - 1 {
		r = all(r)
	}
	return r
}

// wide is a Re of that Kind, of n Res in all.
func wide(kind, n int) api.Re {
	return api.Re{Kind: kind, L: slices.Repeat([]api.Re{of('a')}, n-1)}
}

// mustSize holds what is told of r against a size; 0: it may not be.
func mustSize(t *testing.T, what string, r api.Re, want int) {
	t.Helper()
	if n, ok := Size(r), Check(r); n != want || ok != (want > 0) {
		t.Errorf("%s: %d Res, may be: %v, want %d", what, n, ok, want)
	}
	if want == 0 {
		mustNotBeLiteral(t, what, r)
	}
}

func mustNotBeLiteral(t *testing.T, what string, r api.Re) {
	t.Helper()
	if s, ok := Literal(r); s != "" || ok {
		t.Errorf("Literal(%s): %d bytes, %v", what, len(s), ok)
	}
}

func mustBeLiteral(t *testing.T, what string, r api.Re, want string) {
	t.Helper()
	if s, ok := Literal(r); s != want || !ok {
		t.Errorf("Literal(%s): %d bytes, %v, want %d bytes", what, len(s), ok, len(want))
	}
}

func TestKinds(t *testing.T) { // 10.3: a Kind that is none
	for _, kind := range []int{0, -1, 5, 9, math.MinInt, math.MaxInt} {
		for _, r := range []api.Re{{Kind: kind}, {Kind: kind, L: []api.Re{of('a')}}, {Kind: kind, L: []api.Re{of('a')}, Min: 1, Max: 2}, {Kind: kind, Set: of('a').Set}} {
			mustSize(t, told(r), r, 0)
			mustSize(t, "within", all(of('a'), r), 0)
		}
	}
	mustSize(t, "the plain one", api.Re{}, 0)
}

func TestFields(t *testing.T) { // 10.3: each Kind's
	a := of('a')
	lists := [][]api.Re{nil, {}, {a}, {a, a}, {a, a, a}}
	sets := []api.Set{{}, a.Set, {1}, {0, 0, 0, 1 << 63}, not().Set, not('a').Set}
	numbers := []int{math.MinInt, -2, -1, 0, 1, 2, 63, 64, 65, math.MaxInt}
	for kind := range 6 {
		for _, l := range lists {
			for _, set := range sets {
				for _, from := range numbers {
					for _, to := range numbers {
						r := api.Re{Kind: kind, Set: set, L: l, Min: from, Max: to}
						want := 0
						if mayBe(r) {
							want = 1 + len(l)
						}
						mustSize(t, told(r), r, want)
						mustSize(t, "within", one(a, rep(0, 1, r)), map[bool]int{true: want + 3}[want > 0])
					}
				}
			}
		}
	}
	for k, r := range []api.Re{of(), a, not(), all(), all(a), one(), one(a), one(a, a), rep(0, 0, a), rep(0, -1, a), rep(64, 64, a), rep(64, -1, a), rep(3, 64, all())} {
		if !Check(r) {
			t.Errorf("%d: %s may not be", k, told(r))
		}
	}
	for k, r := range []api.Re{{Kind: 1, L: []api.Re{a}}, {Kind: 4}, {Kind: 4, L: []api.Re{a, a}}, {Kind: 2, Set: a.Set}, {Kind: 3, Set: a.Set}, {Kind: 4, Set: a.Set, L: []api.Re{a}}, {Kind: 1, Max: 1}, {Kind: 2, Min: 1}, {Kind: 3, Max: -1}, rep(-1, -1, a), rep(1, 0, a), rep(0, -2, a), rep(0, 65, a), rep(65, 65, a), rep(65, -1, a), rep(64, 63, a)} {
		if Check(r) {
			t.Errorf("%d: %s may be", k, told(r))
		}
	}
}

func TestDeep(t *testing.T) { // 10.3: 128, and one more
	for n := 1; n < 140; n++ {
		want := n
		if n > 128 {
			want = 0
		}
		mustSize(t, fmt.Sprint(n, " deep"), chain(n), want)
		if n <= 128 {
			mustBeLiteral(t, fmt.Sprint(n, " deep"), chain(n), "a")
		}
	}
	mustSize(t, "deep at the end", all(of('a'), of('a'), chain(127)), 130)
	mustSize(t, "too deep at the end", all(of('a'), of('a'), chain(128)), 0)
	mustSize(t, "deep on both sides", one(chain(127), chain(127)), 255)
	r := all()
	for range 127 {
		r = rep(64, -1, r)
	}
	mustSize(t, "repeated", r, 128)
	mustSize(t, "repeated once more", rep(0, 1, r), 0)
	mustSize(t, "as deep as can be told", chain(1<<16), 0)
}

func TestMany(t *testing.T) { // 10.3: 4096, and one more
	for _, kind := range []int{2, 3} {
		for _, n := range []int{1, 2, 4095, 4096, 4097, 4098, 100000} {
			want := n
			if n > 4096 {
				want = 0
			}
			mustSize(t, fmt.Sprint(n, " Res"), wide(kind, n), want)
		}
	}
	four := slices.Repeat([]api.Re{wide(3, 1023)}, 4) // 4092
	mustSize(t, "within one another", all(append(four, of(), all(), one())...), 4096)
	mustSize(t, "within one another, one more", all(append(four, of(), all(), one(), of())...), 0)
	r := of('a')
	for range 127 { // the same member twice, so that there are 2^128 - 1 of them
		r = all(r, r)
	}
	mustSize(t, "more than can be counted", r, 0)
	r = of('a')
	for range 11 {
		r = all(r, r)
	}
	mustSize(t, "2^12 - 1", r, 4095)
	mustSize(t, "2^12", all(r), 4096)
	mustSize(t, "2^12 and 1", rep(1, 1, all(r)), 0)
}

func TestWithinItself(t *testing.T) { // P1: a Re that has no end
	for kind := range 6 {
		for n := 1; n < 4; n++ {
			l := make([]api.Re, n)
			for k := range l {
				l[k] = api.Re{Kind: kind, L: l}
			}
			mustSize(t, fmt.Sprint("Kind ", kind, " within itself"), l[0], 0)
			mustSize(t, fmt.Sprint("Kind ", kind, " within itself, behind others"), all(of('a'), l[n-1]), 0)
		}
	}
}

func TestLiteral(t *testing.T) { // 10.2
	a, b, none := of('a'), of('b'), all()
	for want, l := range map[string][]api.Re{
		"a":      {a, all(a), rep(1, 1, a), all(all(a)), all(none, a), all(a, none), rep(1, 1, all(rep(1, 1, a)))},
		"":       {none, all(none), all(none, none), rep(0, 0, a), rep(1, 1, none), rep(64, 64, none), rep(0, 0, none), all(rep(0, 0, a), rep(0, 0, b)), rep(0, 0, all(a, b))},
		"ab":     {all(a, b), all(all(a), all(b)), all(a, rep(0, 0, a), b)},
		"abab":   {rep(2, 2, all(a, b)), all(a, b, a, b), all(all(a, b), all(a, b)), all(a, rep(1, 1, all(b, a)), b)},
		"aabaab": {rep(2, 2, all(rep(2, 2, a), b))},
		"\x00":   {of(0)},
		"\xff":   {of(255)},
		"\n":     {of(10)},
	} {
		for _, r := range l {
			mustBeLiteral(t, told(r), r, want)
		}
	}
	for b := range 256 {
		mustBeLiteral(t, fmt.Sprint("byte ", b), of(byte(b)), string([]byte{byte(b)}))
		mustNotBeLiteral(t, fmt.Sprint("all but ", b), not(byte(b)))
		if b != 7 {
			mustNotBeLiteral(t, fmt.Sprint("two of them, 7 and ", b), of(7, byte(b)))
		}
	}
	mustBeLiteral(t, "a, 64 times", rep(64, 64, a), strings.Repeat("a", 64))
	for _, r := range []api.Re{of(), not(), of('a', 'b'), one(), one(a), one(a, a), one(a, b), rep(0, -1, a), rep(1, -1, a), rep(0, 1, a), rep(2, 3, a), rep(0, -1, none), rep(0, 1, none), rep(0, 0, one(a)), rep(0, 0, of()), rep(0, 0, rep(0, 1, a))} {
		for _, x := range []api.Re{r, all(r), all(a, r), all(r, a), rep(1, 1, r), rep(0, 0, r), rep(2, 2, all(a, all(r)))} {
			mustNotBeLiteral(t, told(x), x)
			if !Check(x) {
				t.Errorf("%s may not be", told(x))
			}
		}
	}
	for s, want := range map[string]string{"": "", "abc": "abc", "(ab){2}c": "ababc", `a\.b`: "a.b", "[x]": "x", "a{0}": "", `(a{3}b){2}\x00`: "aaabaaab\x00", "()": "", "[a-a]": "a"} {
		mustBeLiteral(t, s, parsed(t, s), want)
	}
	for _, s := range []string{".", "a|b", "a|a", "a*", "a?", "a{1,2}", "a{2,}", "[ab]", "[^a]", `\d`, "(a|)", "|", "a.b", `[^\x00-\xff]`} {
		mustNotBeLiteral(t, s, parsed(t, s))
	}
}

func TestLiteralOfManyBytes(t *testing.T) { // 10.2: MaxBytes, and one more
	a, b := of('a'), of('b')
	k := rep(64, 64, rep(64, 64, a)) // 4096
	whole := rep(16, 16, k)          // 65536
	text := strings.Repeat("a", 65536)
	mustBeLiteral(t, "MaxBytes", whole, text)
	mustBeLiteral(t, "MaxBytes, with empty ones", all(all(), whole, rep(0, 0, k)), text)
	mustBeLiteral(t, "MaxBytes, in parts", all(rep(15, 15, k), rep(63, 63, rep(64, 64, a)), rep(63, 63, a), b), text[1:]+"b")
	for what, r := range map[string]api.Re{
		"one more behind": all(whole, b),
		"one more ahead":  all(b, whole),
		"one more within": all(rep(15, 15, k), rep(63, 63, rep(64, 64, a)), rep(64, 64, a), b),
		"17 times":        rep(17, 17, k),
		"64 times":        rep(64, 64, k),
		"twice":           rep(2, 2, whole),
		"once, and again": all(whole, whole),
	} {
		mustNotBeLiteral(t, what, r)
		if !Check(r) {
			t.Errorf("%s may not be", what)
		}
		mustBeLiteral(t, what+", 0 times", rep(0, 0, r), "") // of these no byte is left
		mustBeLiteral(t, what+", 0 times, behind MaxBytes", all(whole, rep(0, 0, r)), text)
	}
	r, e, n := a, all(), of('a')
	for range 126 {
		r, e = rep(64, 64, r), rep(64, 64, e)
	}
	mustNotBeLiteral(t, "64^126 bytes", r)
	mustBeLiteral(t, "64^126 times nothing", e, "")
	mustBeLiteral(t, "64^126 bytes, 0 times", rep(0, 0, r), "")
	for range 15 { // 2^15 bytes would be 2^16 - 1 Res: too many, though the text is not
		n = all(n, n)
	}
	mustNotBeLiteral(t, "too many Res", n)
	mustBeLiteral(t, "as many Res as may be", wide(2, 4096), strings.Repeat("a", 4095))
}

// textOf is the text of an r that is so made, by the words, as long as it is not too long.
func textOf(r api.Re) (string, bool) {
	s := ""
	switch r.Kind {
	case 1:
		n := 0
		for b := range 256 {
			if r.Set[b/64]>>(b%64)&1 == 1 {
				s, n = string([]byte{byte(b)}), n+1
			}
		}
		return s, n == 1
	case 2:
		for _, x := range r.L {
			part, ok := textOf(x)
			if !ok {
				return "", false
			}
			s += part
		}
		return s, true
	case 4:
		part, ok := textOf(r.L[0])
		return strings.Repeat(part, max(r.Max, 0)), ok && r.Min == r.Max
	}
	return "", false
}

// drawnRe is a Re, mostly one that may be.
func drawnRe(r *rand.Rand, deep int) api.Re {
	x := api.Re{Kind: 1 + r.Intn(4)}
	if r.Intn(3) > 0 {
		x.Kind = 2
	}
	if deep == 0 {
		x.Kind = 1
	}
	switch x.Kind {
	case 1:
		x = of(byte(r.Intn(256)))
		if r.Intn(20) == 0 {
			x = of(byte(r.Intn(256)), byte(r.Intn(256)))
		}
	case 4:
		x = rep(r.Intn(4), r.Intn(4), drawnRe(r, deep-1))
		if r.Intn(4) > 0 {
			x.Max = x.Min
		}
	default:
		for range r.Intn(4) {
			x.L = append(x.L, drawnRe(r, deep-1))
		}
	}
	if r.Intn(200) == 0 {
		x.Kind = r.Intn(6)
	}
	if r.Intn(200) == 0 {
		x.Max = r.Intn(70) - 2
	}
	if r.Intn(200) == 0 {
		x.Set[r.Intn(4)] = uint64(r.Intn(2))
	}
	return x
}

func TestDrawnRes(t *testing.T) { // 10.2, 10.3, rule 4: against the words, and nothing is changed
	r := rand.New(rand.NewSource(103))
	count := [3]int{}
	for range 50000 {
		x := drawnRe(r, r.Intn(5))
		elder := told(x)
		size, s, ok := 0, "", false
		if mayBe(x) {
			size = sizeOf(x)
			count[0]++
			if s, ok = textOf(x); ok {
				count[1]++
			} else {
				s = ""
			}
		} else {
			count[2]++
		}
		mustSize(t, elder, x, size)
		if got, is := Literal(x); got != s || is != ok {
			t.Errorf("Literal(%s): %q, %v, want %q, %v", elder, got, is, s, ok)
		}
		if told(x) != elder {
			t.Errorf("%s is changed: %s", elder, told(x))
		}
	}
	if slices.Min(count[:]) < 1000 {
		t.Errorf("drawn: %v", count)
	}
}

func TestHas(t *testing.T) { // 10.1
	for k := range 256 {
		b := byte(k)
		for c := range 256 {
			if Has(of(b).Set, byte(c)) != (k == c) || Has(not(b).Set, byte(c)) != (k != c) {
				t.Errorf("Has of %d, %d", b, c)
			}
		}
		if Has(api.Set{}, b) || !Has(not().Set, b) {
			t.Errorf("Has of none, or all, %d", b)
		}
	}
	for _, b := range []byte{0, 63, 64, 127, 128, 191, 192, 255} {
		var s api.Set
		s[b/64] = 1 << (b % 64)
		if !Has(s, b) || Has(s, b+1) || Has(s, b+64) {
			t.Errorf("Has at %d", b)
		}
	}
	r := rand.New(rand.NewSource(1))
	for range 1000 {
		s := api.Set{r.Uint64(), r.Uint64(), r.Uint64(), r.Uint64()}
		b := byte(r.Intn(256))
		if Has(s, b) != (s[b/64]&(1<<(b%64)) != 0) {
			t.Errorf("Has(%x, %d)", s, b)
		}
	}
}

func TestQuote(t *testing.T) { // 10.2: each byte, and texts
	plain := `_,:;<=>@!"#%&'~` + "0123456789abcdefghijklmnopqrstuvwxyzABCDEFGHIJKLMNOPQRSTUVWXYZ"
	for k := range 256 {
		s := string([]byte{byte(k)})
		want := s
		if strings.IndexByte(plain, byte(k)) < 0 {
			want = fmt.Sprintf(`\x%02x`, k)
		}
		if q := Quote(s); q != want {
			t.Errorf("Quote(%q): %s, want %s", s, q, want)
		}
		if q := Quote("a" + s + s); q != "a"+want+want {
			t.Errorf("Quote(%q): %s", "a"+s+s, q)
		}
		mustQuote(t, s)
	}
	for s, want := range map[string]string{"": "", "abc": "abc", "a.b-\xff": `a\x2eb\x2d\xff`, "a b": `a\x20b`, `\x41`: `\x5cx41`, "é": `\xc3\xa9`, "a|b*": `a\x7cb\x2a`, "^$": `\x5e\x24`, "[/]": `\x5b\x2f\x5d`, "`": `\x60`} {
		if q := Quote(s); q != want {
			t.Errorf("Quote(%q): %s, want %s", s, q, want)
		}
	}
}

// mustQuote holds s, quoted, against itself.
func mustQuote(t *testing.T, s string) { // 10.5
	t.Helper()
	q := Quote(s)
	r, at, e := Parse(q)
	if len(q) > api.MaxPattern {
		if at != 0 || e != api.ErrLong {
			t.Errorf("Quote of %d bytes, read: %d, %v", len(s), at, e)
		}
		return
	}
	if got, ok := Literal(r); got != s || !ok || e != api.OK {
		t.Errorf("Quote(%q): %s, read as %q, %v, %v", s, q, got, ok, e)
	}
	if told(r) != told(bytesOf(s)) {
		t.Errorf("Quote(%q): %s, read as %s", s, q, told(r))
	}
}

func TestQuoteIsRead(t *testing.T) { // 10.5
	mustQuote(t, "")
	for _, n := range []int{63, 64, 65} { // four bytes each
		mustQuote(t, strings.Repeat(".", n))
	}
	for _, n := range []int{255, 256, 257, 1000} {
		mustQuote(t, strings.Repeat("a", n))
		mustQuote(t, strings.Repeat("a", n-4)+"-")
		mustQuote(t, strings.Repeat("a", n-4)+"a-")
	}
	r := rand.New(rand.NewSource(105))
	for range 20000 {
		b := make([]byte, r.Intn(70))
		for k := range b {
			b[k] = byte(r.Intn(256))
		}
		mustQuote(t, string(b))
	}
	if q := Quote(strings.Repeat("\x80", 100000)); q != strings.Repeat(`\x80`, 100000) {
		t.Errorf("Quote of 100000 bytes: %d", len(q))
	}
}
