package syntax

import (
	"fmt"
	"math/rand"
	"regexp"
	"slices"
	"strings"
	"testing"

	"tidepole/api"
)

func TestExamples(t *testing.T) { // the chapter's, and the whole's tenth
	mustRead(t, "a|b*", one(of('a'), rep(0, -1, of('b'))))
	mustFail(t, "a**", 2)
	mustFail(t, "[b-a]", 1)
	mustFail(t, "(a", 2)
}

func TestSequences(t *testing.T) { // 10.1: none, one, more of them, and none on either side of a bar
	a, b, c, none := of('a'), of('b'), of('c'), all()
	for s, want := range map[string]api.Re{
		"":           none,
		"a":          a,
		"ab":         all(a, b),
		"abc":        all(a, b, c),
		"|":          one(none, none),
		"||":         one(none, none, none),
		"a|":         one(a, none),
		"|a":         one(none, a),
		"a||b":       one(a, none, b),
		"a|b|c":      one(a, b, c),
		"ab|c":       one(all(a, b), c),
		"a|bc|":      one(a, all(b, c), none),
		"()":         none,
		"(?:)":       none,
		"(|)":        one(none, none),
		"(?:|a)":     one(none, a),
		"(a|)":       one(a, none),
		"()|()":      one(none, none),
		"(a)":        a,
		"(?:a)":      a,
		"((a))":      a,
		"(ab)":       all(a, b),
		"(ab)c":      all(all(a, b), c),
		"a(bc)":      all(a, all(b, c)),
		"(a)(b)":     all(a, b),
		"()a":        all(none, a),
		"()()":       all(none, none),
		"(a|b)":      one(a, b),
		"(a|b)c":     all(one(a, b), c),
		"(a|b)|c":    one(one(a, b), c),
		"a|(b|c)":    one(a, one(b, c)),
		"a|(?:b|c)":  one(a, one(b, c)),
		"(a|(b(c)))": one(a, all(b, c)),
	} {
		mustRead(t, s, want)
	}
}

func TestBytes(t *testing.T) { // 10.1: each byte alone, behind one and ahead of one
	for k := range 256 {
		b := byte(k)
		s := string([]byte{b})
		switch {
		case b < 32 || b > 126, strings.IndexByte(`)*+?{}^$`, b) >= 0:
			mustFail(t, s, 0)
			mustFail(t, "a|"+s, 2)
		case strings.IndexByte(`\[(`, b) >= 0:
			mustFail(t, s, 1)
		case b == '|':
			mustRead(t, s, one(all(), all()))
		case b == '.':
			mustRead(t, s, not(10))
			mustRead(t, "a"+s+"b", all(of('a'), not(10), of('b')))
		default:
			mustRead(t, s, of(b))
			mustRead(t, "a"+s+"b", all(of('a'), of(b), of('b')))
		}
		mustGo(t, s)
	}
}

func TestBytesThatMayNotBe(t *testing.T) { // 10.1, 10.6: at each place
	for _, s := range []string{"abc", "a|b", `(?:a)`, `((a))`, `a{12,34}b`, `a{1,}`, `a*b+c?`, `[^a-cx\d\x41-\x5a]`, `\x4F\n\\`, `[\--a]`, `(ab|[c-e]{2})*\.`} {
		if _, _, e := Parse(s); e != api.OK {
			t.Fatalf("%q: %v", s, e)
		}
		for at := range len(s) + 1 {
			for _, b := range []byte{0, 9, 10, 31, 127, 128, 195, 255} {
				mustFail(t, s[:at]+string([]byte{b})+s[at:], at)
				mustFail(t, s[:at]+string([]byte{b}), at)
			}
		}
	}
	mustFail(t, "\x1f", 0)
	mustRead(t, " ", of(' '))
	mustRead(t, "~", of('~'))
	mustFail(t, "\x7f", 0)
	mustFail(t, "é", 0)
	mustFail(t, "aé", 1)
	mustFail(t, "[\x1f]", 1)
	mustRead(t, "[ ~]", of(' ', '~'))
	mustRead(t, "[ -~]", those(func(b byte) bool { return b >= 32 && b <= 126 }))
	mustFail(t, "[ -\x7f]", 3)
	mustFail(t, "\\\x7f", 1)
	mustFail(t, "a\x00**", 1)
	mustFail(t, "a**\x00", 2)
}

func TestLong(t *testing.T) { // 10.1: MaxPattern bytes, and one more
	s := strings.Repeat("a", api.MaxPattern)
	mustRead(t, s, bytesOf(s))
	mustRead(t, strings.Repeat("|", api.MaxPattern), one(slices.Repeat([]api.Re{all()}, api.MaxPattern+1)...))
	mustFail(t, s[1:]+"(", 256)
	mustFail(t, s[1:]+"[", 256)
	mustFail(t, s[1:]+"{", 256)
	mustFail(t, s[1:]+`\`, 256)
	mustFail(t, s[1:]+")", 255)
	mustFail(t, s[2:]+"**", 255)
	for _, s := range []string{s + "a", s + ")", s + "\x00", "*" + s, "\x00" + s, strings.Repeat("(", 257), strings.Repeat("\xff", 70000)} {
		if r, at, e := Parse(s); told(r) != told(api.Re{}) || at != 0 || e != api.ErrLong {
			t.Errorf("Parse of %d bytes: %s, %d, %v", len(s), told(r), at, e)
		}
	}
}

func TestBrackets(t *testing.T) { // 10.1: 32 one within another, and the 33rd
	for _, begin := range []string{"(", "(?:"} {
		for n := range 40 {
			s := strings.Repeat(begin, n)
			whole := s + "a" + strings.Repeat(")", n)
			if n <= 32 {
				mustRead(t, whole, of('a'))
				mustRead(t, s+strings.Repeat(")", n), all())
				mustRead(t, s+"[(][(]"+strings.Repeat(")", n), all(of('('), of('('))) // those of a class are none
				mustRead(t, whole+`\(`, all(of('a'), of('(')))
				other := strings.Repeat("(", n) + "b" + strings.Repeat(")", n)
				mustRead(t, whole+other, all(of('a'), of('b'))) // those that are closed do not count
				mustRead(t, whole+"|"+other, one(of('a'), of('b')))
				mustFail(t, whole+")", len(whole))
			} else {
				mustFail(t, whole, 32*len(begin))
				mustFail(t, s, 32*len(begin))
				mustFail(t, s+"\x00", 32*len(begin))
			}
			if n > 0 && n <= 32 {
				mustFail(t, s, len(s))
				mustFail(t, whole[:len(whole)-1], len(whole)-1)
				mustFail(t, s+strings.Repeat(")", n+1), len(s)+n)
			}
		}
	}
	in := strings.Repeat("(", 31)
	out := strings.Repeat(")", 31)
	mustRead(t, in+strings.Repeat("()", 40)+out, all(slices.Repeat([]api.Re{all()}, 40)...))
	mustFail(t, in+"()((", 34)
	mustFail(t, in+"(a|b)|(c|(d))"+out, 40)
	for s, place := range map[string]int{"(": 1, ")": 0, "a)": 1, "(a": 2, "(a))": 3, "())": 2, "a|)": 2, "(a|": 3, "(?": 2, "(?a)": 2, "(?)": 2, "(?:": 3, "(?:a": 4, "(??:a)": 2, "(?P<a>b)": 2, "(?i)a": 2, "(? :a)": 2, "(*": 1, "(+a)": 1, "({2})": 1, "(?:*)": 3, "(?:?)": 3, "(a|*)": 3, "(a]": 3, "(\\)": 3, "([)": 3, "([)]": 4} {
		mustFail(t, s, place)
	}
}

func TestTimes(t *testing.T) { // 10.1: each sign of repetition
	a := of('a')
	for s, want := range map[string]api.Re{
		"a*": rep(0, -1, a), "a+": rep(1, -1, a), "a?": rep(0, 1, a),
		"a{0}": rep(0, 0, a), "a{1}": rep(1, 1, a), "a{64}": rep(64, 64, a), "a{10}": rep(10, 10, a),
		"a{0,}": rep(0, -1, a), "a{1,}": rep(1, -1, a), "a{64,}": rep(64, -1, a),
		"a{0,0}": rep(0, 0, a), "a{0,1}": rep(0, 1, a), "a{2,3}": rep(2, 3, a), "a{9,10}": rep(9, 10, a), "a{0,64}": rep(0, 64, a), "a{64,64}": rep(64, 64, a),
		"ab*":       all(a, rep(0, -1, of('b'))),
		"a*b":       all(rep(0, -1, a), of('b')),
		"(ab)*":     rep(0, -1, all(a, of('b'))),
		"(a|b){2}":  rep(2, 2, one(a, of('b'))),
		"()*":       rep(0, -1, all()),
		"(a*)*":     rep(0, -1, rep(0, -1, a)),
		"(?:a?)+":   rep(1, -1, rep(0, 1, a)),
		"(a{2}){3}": rep(3, 3, rep(2, 2, a)),
		"a*|b+":     one(rep(0, -1, a), rep(1, -1, of('b'))),
		"(a*)":      rep(0, -1, a),
		".?":        rep(0, 1, not(10)),
		"[ab]+":     rep(1, -1, of('a', 'b')),
		`\n{2}`:     rep(2, 2, of(10)),
		`\x41*`:     rep(0, -1, of('A')),
		`\**`:       rep(0, -1, of('*')),
		"]*":        rep(0, -1, of(']')),
		"-?,+":      all(rep(0, 1, of('-')), rep(1, -1, of(','))),
	} {
		mustRead(t, s, want)
	}
	signs := []string{"*", "+", "?", "{0}", "{1,}", "{1,2}", "{64}"}
	for _, x := range signs {
		for _, s := range []string{"", "|", "a|", "(", "(?:", "()|"} {
			place := len(s)
			if s == "(" && x == "?" { // as (?: begins
				place++
			}
			mustFail(t, s+x, place)
			mustFail(t, s+x+"a", place)
		}
		for _, y := range signs {
			mustFail(t, "a"+x+y, 1+len(x))
			mustFail(t, "(a"+x+")"+y+x, 3+len(x)+len(y))
			if r, _, e := Parse("(a" + x + ")" + y); e != api.OK || r.Kind != 4 || r.L[0].Kind != 4 {
				t.Errorf("(a%s)%s: %s, %v", x, y, told(r), e)
			}
		}
	}
}

func TestCounts(t *testing.T) { // 10.1: all numbers, and what is none
	a := of('a')
	for m := range 130 {
		place := 1
		if m > 99 {
			place = 4 // the third digit
		}
		one, more := fmt.Sprintf("a{%d}", m), fmt.Sprintf("a{%d,}", m)
		if m <= 64 {
			mustRead(t, one, rep(m, m, a))
			mustRead(t, more, rep(m, -1, a))
		} else {
			mustFail(t, one, place)
			mustFail(t, more, place)
			mustFail(t, "bb"+one, 2+place)
		}
		for n := range 130 {
			s := fmt.Sprintf("a{%d,%d}", m, n)
			switch {
			case m <= n && n <= 64:
				mustRead(t, s, rep(m, n, a))
			case m > 99:
				mustFail(t, s, 4)
			case n > 99:
				mustFail(t, s, len(s)-2)
			default:
				mustFail(t, s, 1)
			}
		}
	}
	for s, place := range map[string]int{
		"a{": 2, "a{}": 2, "a{,": 2, "a{,5}": 2, "a{-1}": 2, "a{ 1}": 2, "a{b}": 2, "a{+1}": 2, "a{{": 2,
		"a{1": 3, "a{1 }": 3, "a{1;2}": 3, "a{1-2}": 3, "a{1{": 3, "a{0": 3, "a{00}": 3, "a{01}": 3, "a{00": 3, "a{0x}": 3,
		"a{12": 4, "a{123": 4, "a{123}": 4, "a{100}": 4, "a{64": 4, "a{65": 4, "a{99,": 5, "a{65x}": 4, "a{99)": 4,
		"a{2,": 4, "a{2,,}": 4, "a{2, 3}": 4, "a{2,x": 4, "a{2,00}": 5, "a{2,3": 5, "a{3,2": 5, "a{3,2x}": 5, "a{2,3,}": 5, "a{2,03}": 5, "a{2,123}": 6, "a{70,60": 7, "a{3,2,1}": 5,
		"a{1,0}": 1, "a{3,2}": 1, "a{65}": 1, "a{65,}": 1, "a{0,65}": 1, "a{65,65}": 1, "a{99}": 1, "a{99,1}": 1, "a{64,63}": 1, "a{65}*": 1, "a{65}\x00": 1, "a{2,1}{": 1,
		"(a{65}": 2, "a{1}{2}": 4, "{1}": 0, "{": 0, "}": 0, "a}": 1, "a{1}}": 4, "a|{1}": 2,
	} {
		mustFail(t, s, place)
	}
}

func TestClasses(t *testing.T) { // 10.1
	span := func(low, high byte) []byte {
		var l []byte
		for b := int(low); b <= int(high); b++ {
			l = append(l, byte(b))
		}
		return l
	}
	for s, want := range map[string]api.Re{
		"[a]": of('a'), "[ab]": of('a', 'b'), "[ba]": of('a', 'b'), "[aa]": of('a'), "[^a]": not('a'), "[^ab]": not('a', 'b'),
		"[a^]": of('a', '^'), "[^^]": not('^'), "[^a^]": not('a', '^'), "[^^^]": not('^'), "[a^b]": of('a', '^', 'b'),
		"[a-c]": of(span('a', 'c')...), "[a-a]": of('a'), "[^a-c]": not(span('a', 'c')...), "[a-cx-z]": of('a', 'b', 'c', 'x', 'y', 'z'), "[a-cb-d]": of(span('a', 'd')...), "[a-b^]": of('a', 'b', '^'),
		"[^^-a]": not(span('^', 'a')...), "[Z-^]": of(span('Z', '^')...),
		"[.]": of('.'), "[$]": of('$'), "[(]": of('('), "[)]": of(')'), "[|]": of('|'), "[*+?{}]": of('*', '+', '?', '{', '}'), "[/]": of('/'), "[,]": of(','), "[.-/]": of('.', '/'), "[*-.]": of(span('*', '.')...), "[(-)]": of('(', ')'), "[ -!]": of(' ', '!'), "[!-~]": of(span('!', '~')...),
		`[\]]`: of(']'), `[\[]`: of('['), `[\-]`: of('-'), `[\^]`: of('^'), `[^\^]`: not('^'), `[\\]`: of('\\'), `[a\-z]`: of('a', '-', 'z'), `[\--a]`: of(span('-', 'a')...), `[+-\-]`: of(span('+', '-')...), `[\--\-]`: of('-'), `[\[-\]]`: of(span('[', ']')...), `[\^-a]`: of(span('^', 'a')...),
		`[\n]`: of(10), `[\t\n]`: of(9, 10), `[\t-\n]`: of(9, 10), `[\n- ]`: of(span(10, 32)...), `[\t-\x20]`: of(span(9, 32)...),
		`[\x00]`: of(0), `[\xff]`: of(255), `[\x00-\xff]`: of(span(0, 255)...), `[^\x00-\xff]`: of(), `[\x7f-\x80]`: of(127, 128), `[\xAb-\xaC]`: of(171, 172), `[a-\x63]`: of(span('a', 'c')...), `[\x61-c]`: of(span('a', 'c')...), `[\x3f-\x40]`: of(63, 64), `[\xbf-\xc0]`: of(191, 192), `[\x61b]`: of('a', 'b'), `[\x611]`: of('a', '1'),
		`[\d]`: of(span('0', '9')...), `[^\d]`: not(span('0', '9')...), `[\D]`: not(span('0', '9')...), `[^\D]`: of(span('0', '9')...), `[\d\D]`: not(), `[^\d\D]`: of(), `[\da-f]`: of(append(span('0', '9'), span('a', 'f')...)...), `[a-f\d]`: of(append(span('0', '9'), span('a', 'f')...)...), `[\sx]`: of(9, 10, 12, 13, 32, 'x'), `[x\S]`: not(9, 10, 12, 13, 32), `[^\w\W]`: of(), `[\w\s\d]`: of(append(span('0', '9'), append(append(span('a', 'z'), span('A', 'Z')...), '_', 9, 10, 12, 13, 32)...)...),
	} {
		mustRead(t, s, want)
		mustRead(t, "x"+s+"y", all(of('x'), want, of('y')))
	}
	mustFail(t, "[^]^]", 2)
	mustFail(t, `[\w-]`, 3)
	mustRead(t, "[a]]", all(of('a'), of(']')))
	mustRead(t, "[a]-[b]", all(of('a'), of('-'), of('b')))
	mustRead(t, "]", of(']'))
	mustRead(t, "]a-", all(of(']'), of('a'), of('-')))
	for s, place := range map[string]int{
		"[": 1, "[]": 1, "[^": 2, "[^]": 2, "[a": 2, "[^a": 3, "[]a]": 1, "[^]a]": 2, "[[": 1, "[[]": 1, "[a[": 2, "[a[b]]": 2, "[[:alpha:]]": 1,
		"[-": 1, "[-]": 1, "[-a]": 1, "[--a]": 1, "[^-]": 2, "[^-a]": 2, "[a-]": 3, "[a-": 3, "[a--]": 3, "[a-[]": 3, "[ab-]": 4, "[a-b-]": 4, "[a-c-e]": 4, "[a-c-]": 4, "[a-b--c]": 4, "[a-b": 4, `[\-`: 3, `[\--`: 4, `[\--]`: 4, `[a\`: 3, `[\`: 2, `[a-\`: 4,
		"[b-a]": 1, "[b-a": 1, "[b-a\x00": 1, "[xb-a]": 2, "[^b-a]": 2, "[a-cb-a]": 4, "[~- ]": 1, "[a-^]": 1, `[b-\x61]`: 1, `[\x62-a]`: 1, `[x\x62-\x61]`: 2, `[a-\-]`: 1, `[a-\n]`: 1, `[\n-\t]`: 1, `[\xff-\xfe]`: 1, `[\xff-~]`: 1, `[b-\x6`: 6, `[b-\x`: 5, `[b-\x6]`: 6, `[b-\x6g]`: 6, `[b-\xg]`: 5, "[b-]": 3, "[b-\x00]": 3, "[é]": 1,
		`[\d-a]`: 3, `[\d-`: 3, `[\d-\d]`: 3, `[a-\d]`: 4, `[a-\w]`: 4, `[a-\s]`: 4, `[a-\D]`: 4, `[a-\W]`: 4, `[a-\S]`: 4, `[x\S-a]`: 4, `[\W-a]`: 3, `[\s-]`: 3, `[b-\q]`: 4,
		`[\q]`: 2, `[\a]`: 2, `[\b]`: 2, `[\x]`: 3, `[\x4]`: 4, `[\x4`: 4, `[\x4g]`: 4, `[\ ]`: 2, `[\_]`: 2, `[\x-\y]`: 3,
		"[a]**": 4, "[a](": 4, "a[": 2, "(a[)": 4, "[a])": 3,
	} {
		mustFail(t, s, place)
	}
}

func TestClassesOfEachByte(t *testing.T) { // 10.1: alone, and on both sides of a pair
	for k := range 256 {
		b := byte(k)
		s, x := string([]byte{b}), fmt.Sprintf(`\x%02X`, b)
		mustRead(t, "["+x+"]", of(b))
		mustRead(t, "[^"+x+"]", not(b))
		mustRead(t, `[`+x+`-\xff]`, those(func(c byte) bool { return c >= b }))
		mustRead(t, `[\x00-`+x+`]`, those(func(c byte) bool { return c <= b }))
		mustRead(t, `[`+x+`-`+x+`]`, of(b))
		switch {
		case b < 32 || b > 126, b == ']', b == '[', b == '-':
			mustFail(t, "["+s+"a]", 1)
			mustFail(t, `[\x00-`+s+`]`, 6)
			if b != ']' && b != '-' {
				mustFail(t, "[a"+s+"]", 2)
			}
		case b == '\\':
			mustFail(t, "["+s+"a]", 2)
		case b == '^':
			mustRead(t, "["+s+"a]", not('a'))
		default:
			mustRead(t, "["+s+"]", of(b))
			mustRead(t, "[^"+s+"]", not(b))
			mustRead(t, `[`+s+`-\xff]`, those(func(c byte) bool { return c >= b }))
			mustRead(t, `[\x00-`+s+`]`, those(func(c byte) bool { return c <= b }))
		}
		for c := range 256 {
			pair := fmt.Sprintf(`[%s-\x%02x]`, x, c)
			if k <= c {
				mustRead(t, pair, those(func(d byte) bool { return d >= b && d <= byte(c) }))
			} else {
				mustFail(t, pair, 1)
			}
		}
	}
}

func TestEscapes(t *testing.T) { // 10.1: each byte behind \, and what is none
	word := func(b byte) bool {
		return b >= 'a' && b <= 'z' || b >= 'A' && b <= 'Z' || b >= '0' && b <= '9' || b == '_'
	}
	blank := []byte{9, 10, 12, 13, 32}
	known := map[byte]api.Re{
		'n': of(10), 't': of(9), 'd': of([]byte("0123456789")...), 'D': not([]byte("0123456789")...),
		'w': those(word), 'W': those(func(b byte) bool { return !word(b) }), 's': of(blank...), 'S': not(blank...),
	}
	for _, b := range []byte(`\.[]()*+?{}^$-/|`) {
		known[b] = of(b)
	}
	if len(known) != 24 {
		t.Fatalf("%d escapes", len(known))
	}
	for k := range 256 {
		b := byte(k)
		s := `\` + string([]byte{b})
		want, is := known[b]
		switch {
		case is:
			mustRead(t, s, want)
			mustRead(t, "["+s+"]", want)
			mustRead(t, "("+s+"|a)", one(want, of('a')))
			mustRead(t, s+"a", all(want, of('a')))
		case b == 'x':
			mustFail(t, s, 2)
			mustFail(t, "["+s+"]", 3)
		default:
			mustFail(t, s, 1)
			mustFail(t, "["+s+"]", 2)
			mustFail(t, "aa"+s+"a", 3)
		}
	}
	mustFail(t, `\`, 1)
	mustFail(t, `a\`, 2)
	mustFail(t, `\\\`, 3)
	mustFail(t, `(\`, 2)
	mustRead(t, `\\\\`, all(of('\\'), of('\\')))
}

func TestHex(t *testing.T) { // 10.1: small and great digits, mixed, and what is none
	digits := "0123456789abcdefABCDEF"
	value := func(c byte) byte { return byte(strings.IndexByte("0123456789abcdef", c|32)) }
	for i := range 256 {
		for j := range 256 {
			x, y := byte(i), byte(j)
			s := `\x` + string([]byte{x, y})
			switch {
			case strings.IndexByte(digits, x) < 0:
				mustFail(t, s, 2)
			case strings.IndexByte(digits, y) < 0:
				mustFail(t, s, 3)
			default:
				mustRead(t, s, of(value(x)*16+value(y)))
			}
		}
	}
	for s, place := range map[string]int{`\x`: 2, `\x4`: 3, `\x4g`: 3, `\xg4`: 2, `\x{41}`: 2, `\x 4`: 2, `\X41`: 1, `\x4-`: 3, `a\x`: 3} {
		mustFail(t, s, place)
	}
	mustRead(t, `\x411`, all(of('A'), of('1')))
	mustRead(t, `\x41{2}`, rep(2, 2, of('A')))
}

func TestEveryShortPattern(t *testing.T) { // 10.1, 10.4, 10.6: where all of few bytes go wrong
	letters := []byte(`a0,{}[]^-\d(?:)|*x` + "\x1f")
	var grow func(s string, n int)
	grow = func(s string, n int) {
		mustGo(t, s)
		if n > 0 && !t.Failed() {
			for _, b := range letters {
				grow(s+string([]byte{b}), n-1)
			}
		}
	}
	grow("", 4)
	for _, s := range []string{"a{1", "a{64,", "[a", "[^b-", `[\x4`, `[\xff-`, "(?:", "(a|", `\x`, strings.Repeat("(", 31)} {
		grow(s, 3)
	}
}

func TestDrawnPatterns(t *testing.T) { // 10.1, 10.4: what right ones stand for, and where they go wrong once they are cut or changed
	r := rand.New(rand.NewSource(10))
	for range 20000 {
		s, want := drawn(r)
		mustRead(t, s, want)
		if wrong(s) >= 0 {
			t.Errorf("%q goes wrong at %d", s, wrong(s))
		}
		cut := s[:r.Intn(len(s)+1)]
		if _, at, e := Parse(cut); e != api.OK && (e != api.ErrSyntax || at != len(cut)) { // what is right so far goes wrong nowhere but at its end
			t.Errorf("Parse(%q): %d, %v", cut, at, e)
		}
		mustGo(t, cut)
		if b := []byte(s); len(b) > 0 {
			for range 1 + r.Intn(3) {
				b[r.Intn(len(b))] = []byte(`a0,{}[]^-\d(?:)|*x+?~ ` + "\x1f\xff")[r.Intn(24)]
			}
			mustGo(t, string(b))
		}
		if t.Failed() {
			return
		}
	}
}

func TestDrawnBytes(t *testing.T) { // P1, 10.6: whatever it is given
	r := rand.New(rand.NewSource(106))
	letters := []byte(`aabb01269,,{{}}[[]]^^--\\dDxXw((??::))||**++.$` + "\x00\x1f\x7f\x80")
	for range 200000 {
		b := make([]byte, r.Intn(40))
		if r.Intn(50) == 0 {
			b = make([]byte, 250+r.Intn(7))
		}
		for k := range b {
			b[k] = letters[r.Intn(len(letters))]
			if r.Intn(40) == 0 {
				b[k] = byte(r.Intn(256))
			}
		}
		mustGo(t, string(b))
		if t.Failed() {
			return
		}
	}
}

func TestMostRes(t *testing.T) { // 10.4: as deep as brackets go, and as many as a pattern's bytes make
	s := strings.Repeat("(", 32) + "a*a|" + strings.Repeat(")*a|", 32)
	r, _, e := Parse(s)
	if e != api.OK || depthOf(r) != 3*33+1 {
		t.Errorf("%d deep, %v", depthOf(r), e)
	}
	mustFollow(t, s)
	for _, s := range []string{"", "|", "||", "a|", "(|)", "()", "ab", "a*", strings.Repeat("|", 256), strings.Repeat("()", 128), strings.Repeat("a|", 128), strings.Repeat("a?", 128)} {
		mustFollow(t, s)
	}
	if r, _, _ := Parse("|"); Size(r) != 3 { // which is twice its bytes, and 1
		t.Errorf("%d Res", Size(r))
	}
}

// meant is where texts of r's that begin at a place of s end, by the words of chapter 12.
func meant(r api.Re, s string, from map[int]bool) map[int]bool {
	out := map[int]bool{}
	join := func(l map[int]bool) {
		for k := range l {
			out[k] = true
		}
	}
	switch r.Kind {
	case 1:
		for k := range from {
			if k < len(s) && r.Set[s[k]/64]>>(s[k]%64)&1 == 1 {
				out[k+1] = true
			}
		}
	case 2:
		join(from)
		for _, x := range r.L {
			out = meant(x, s, out)
		}
	case 3:
		for _, x := range r.L {
			join(meant(x, s, from))
		}
	case 4:
		for n := 0; n <= max(r.Max, r.Min+len(s)+1) && (r.Max < 0 || n <= r.Max) && len(from) > 0; n++ {
			if n >= r.Min {
				join(from)
			}
			from = meant(r.L[0], s, from)
		}
	}
	return out
}

func TestMeaning(t *testing.T) { // 10.1: what is read means what RE2's language says, of texts of bytes below 128
	r := rand.New(rand.NewSource(12))
	tried, fits := 0, 0
	for range 4000 {
		s, _ := drawn(r)
		re, _, e := Parse(s)
		other, err := regexp.Compile(`\A(?:` + s + `)\z`)
		if err != nil && strings.Contains(err.Error(), "repeat count") { // that many it does not take
			continue
		}
		if err != nil || e != api.OK {
			t.Fatalf("%q: %v, %v", s, e, err)
		}
		for range 20 {
			b := make([]byte, r.Intn(5))
			for k := range b {
				b[k] = []byte{byte(r.Intn(128)), 'a' + byte(r.Intn(3)), '0', 10}[r.Intn(4)]
			}
			tried++
			is := meant(re, string(b), map[int]bool{0: true})[len(b)]
			if is {
				fits++
			}
			if is != other.Match(b) {
				t.Fatalf("%q means %q: %v", s, b, is)
			}
		}
	}
	if tried < 50000 || fits < 1000 {
		t.Errorf("%d texts, %d of them fit", tried, fits)
	}
}

func TestParseIsTheCallersOwn(t *testing.T) { // rule 4: lists share nothing
	s := "(ab|c*|)(d{2}|(e|f)g)[hi]j|k(l)|"
	r, _, _ := Parse(s)
	want := told(r)
	var lists []*api.Re
	var walk func(x *api.Re)
	walk = func(x *api.Re) {
		lists = append(lists, x)
		for k := range x.L {
			walk(&x.L[k])
		}
	}
	walk(&r)
	for _, x := range lists { // the room behind each list is nobody else's
		behind := x.L[:cap(x.L)]
		for k := len(x.L); k < len(behind); k++ {
			behind[k] = of('!')
		}
		if told(r) != want {
			t.Fatalf("a list shares its room: %s", told(r))
		}
	}
	for _, x := range lists {
		x.Kind, x.Min = 9, 9
	}
	mustRead(t, s, parsed(t, s))
	if again, _, _ := Parse(s); told(again) != want {
		t.Errorf("%s, want %s", told(again), want)
	}
}

// parsed is what s stands for.
func parsed(t *testing.T, s string) api.Re {
	t.Helper()
	r, at, e := Parse(s)
	if e != api.OK {
		t.Fatalf("Parse(%q): %d, %v", s, at, e)
	}
	return r
}

func FuzzParse(f *testing.F) { // P1, 10.1, 10.4, 10.6
	for _, s := range []string{"", "a|b*", `[^x-z\-]`, "a{2,3}", `(?:\x4F|\d)+`, "[b-a]", "a**"} {
		f.Add(s)
	}
	f.Fuzz(func(t *testing.T, s string) {
		if len(s) <= api.MaxPattern {
			mustGo(t, s)
		} else if _, at, e := Parse(s); at != 0 || e != api.ErrLong {
			t.Errorf("Parse of %d bytes: %d, %v", len(s), at, e)
		}
	})
}
