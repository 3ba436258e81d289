package sim

import (
	"math/rand"
	"regexp"
	"slices"
	"strings"
	"testing"

	"tidepole/api"
	"tidepole/prog"
	"tidepole/syntax"
)

// mustMean is whether pattern means s, by Full, which is held against its Re, and its program.
func mustMean(t *testing.T, pattern, s string) bool {
	t.Helper()
	re, _, e := syntax.Parse(pattern)
	if e != api.OK {
		t.Fatalf("%q is no pattern", pattern)
	}
	want := meant(re, s)
	for range 2 { // P2: the second time as the first
		if got, at, e := Full(pattern, s); got != want || at != 0 || e != api.OK {
			t.Fatalf("Full(%q, %q): %v, %d, %v, want %v", pattern, s, got, at, e, want)
		}
	}
	l, _ := prog.Make(re)
	if got, e := Match(l, s); got != want || e != api.OK {
		t.Fatalf("Match of %q, %q: %v, %v, want %v", pattern, s, got, e, want)
	}
	return want
}

func TestPatterns(t *testing.T) { // 12.1, 12.3, by hand
	for _, x := range []struct {
		pattern  string
		are, not []string
	}{
		{"(a|b)*c", []string{"c", "abac"}, []string{"ab", "", "cc", "abacx"}},
		{"", []string{""}, []string{"a"}},
		{"()", []string{""}, []string{"a"}},
		{"|", []string{""}, []string{"a"}},
		{"a{0}", []string{""}, []string{"a"}},
		{"a{2}", []string{"aa"}, []string{"a", "aaa"}},
		{"a{2,}", []string{"aa", "aaaaa"}, []string{"", "a"}},
		{"a{0,2}b", []string{"b", "ab", "aab"}, []string{"aaab", "a"}},
		{"a{64}", []string{strings.Repeat("a", 64)}, []string{strings.Repeat("a", 63), strings.Repeat("a", 65)}},
		{"(a*)*", []string{"", "a", "aaaa"}, []string{"b", "aab"}},
		{"(a*)+b", []string{"b", "aab"}, []string{"", "a", "ba"}},
		{"((a?)*)*", []string{"", "aaa"}, []string{"b"}},
		{"(|a)+", []string{"", "a", "aa"}, []string{"b"}},
		{"(a|){2,}b", []string{"b", "ab", "aaab"}, []string{"a"}},
		{"()*a", []string{"a"}, []string{"", "aa"}},
		{"(a|ab)(c|bcd)", []string{"ac", "abc", "abcd", "abbcd"}, []string{"ab", "abcdx"}},
		{".*", []string{"", "ab", "\x00\xff"}, []string{"\n", "a\nb"}},
		{"[^a]+", []string{"b", "\n", "\x00\xff"}, []string{"", "a", "ba"}},
		{`\x00\xff`, []string{"\x00\xff"}, []string{"", "\xff\x00", "\x00"}},
		{`[\x00-\xff]{3}`, []string{"\x00\x80\xff"}, []string{"\x00\xff", "ÿ"}},
		{`\d+\.\d`, []string{"1.2", "90.0"}, []string{"1,2", ".2", "1.23"}},
	} {
		for _, s := range x.are {
			if !mustMean(t, x.pattern, s) {
				t.Errorf("%q must mean %q", x.pattern, s)
			}
		}
		for _, s := range x.not {
			if mustMean(t, x.pattern, s) {
				t.Errorf("%q must not mean %q", x.pattern, s)
			}
		}
	}
}

func TestWrongPatterns(t *testing.T) { // 12.1: Parse's errors with their places, ErrProg, ErrLong
	text, long := strings.Repeat("a", api.MaxBytes), strings.Repeat("a", api.MaxBytes+1)
	great := "((a{9}){9}){64}"
	for _, x := range []struct {
		pattern, s string
		at         int
		e          api.Errno
	}{
		{"a**", "", 2, api.ErrSyntax}, {"[b-a]", "a", 1, api.ErrSyntax}, {"(a", "a", 2, api.ErrSyntax}, {"a)", "", 1, api.ErrSyntax},
		{"*", "", 0, api.ErrSyntax}, {"a{3,2}", "aa", 1, api.ErrSyntax}, {"\n", "\n", 0, api.ErrSyntax}, {"ab\xff", "ab\xff", 2, api.ErrSyntax},
		{strings.Repeat("(", 33), "", 32, api.ErrSyntax}, {"a**", long, 2, api.ErrSyntax},
		{strings.Repeat("a", 257), "", 0, api.ErrLong}, {strings.Repeat("*", 257), long, 0, api.ErrLong},
		{great, "", 0, api.ErrProg}, {great, text, 0, api.ErrProg}, {great, long, 0, api.ErrProg},
		{great + "(", "", len(great) + 1, api.ErrSyntax},
		{"a*", long, 0, api.ErrLong}, {"", long, 0, api.ErrLong}, {"b", long, 0, api.ErrLong},
	} {
		for range 2 {
			if ok, at, e := Full(x.pattern, x.s); ok || at != x.at || e != x.e {
				t.Errorf("Full(%q, %d bytes): %v, %d, %v, want %d, %v", x.pattern, len(x.s), ok, at, e, x.at, x.e)
			}
		}
	}
}

func TestGreatPatterns(t *testing.T) { // 12.1: programs of MaxProg instructions, and of one more
	for _, x := range []struct {
		pattern string
		n       int
		e       api.Errno
	}{{"(a{64}){31}a{63}", 2047, api.OK}, {"(a{64}){32}", 0, api.ErrProg}, {"(a{64}){31}a{62}", 2046, api.OK}} {
		re, _, _ := syntax.Parse(x.pattern)
		if n, _ := prog.Count(re); x.e == api.OK && n != x.n+1 || x.e != api.OK && n != api.MaxProg+1 {
			t.Errorf("%s has %d instructions", x.pattern, n)
		}
		ok, at, e := Full(x.pattern, strings.Repeat("a", x.n))
		if ok != (x.e == api.OK) || at != 0 || e != x.e {
			t.Errorf("Full(%s): %v, %d, %v", x.pattern, ok, at, e)
		}
		if ok, _, e = Full(x.pattern, strings.Repeat("a", x.n+1)); ok || e != x.e {
			t.Errorf("Full(%s) of one more: %v, %v", x.pattern, ok, e)
		}
	}
	re, _, _ := syntax.Parse(strings.Repeat("a", 256))
	if l, _ := prog.Make(re); len(l) != 257 {
		t.Errorf("%d instructions", len(l))
	}
	if ok, _, e := Full(strings.Repeat("a", 256), strings.Repeat("a", 256)); !ok || e != api.OK {
		t.Errorf("MaxPattern: %v, %v", ok, e)
	}
}

func TestDrawnMeanings(t *testing.T) { // 12.3: any Re that may be, not only those that are read
	r := rand.New(rand.NewSource(123))
	count := [2]int{}
	for range 20000 {
		re := drawnRe(r, 1+r.Intn(4), 3)
		l, e := prog.Make(re)
		if e != api.OK {
			continue
		}
		s := drawnText(r, "abc\x00\xff", 6)
		want := meant(re, s)
		if got, e := Match(l, s); got != want || e != api.OK {
			t.Fatalf("Match(%s, %q): %v, %v, want %v", told(l), s, got, e, want)
		}
		from := make([]bool, len(s)+1)
		at := r.Intn(len(from))
		from[at] = true
		var ends []int
		for k, ok := range behind(re, s, from) {
			if ok {
				ends = append(ends, k)
			}
		}
		mustEnd(t, l, s, at, ends...)
		if want {
			count[0]++
		} else {
			count[1]++
		}
	}
	if slices.Min(count[:]) < 1500 {
		t.Errorf("drawn: %v", count)
	}
}

func TestEmptyTimes(t *testing.T) { // 12.3: times of what may be empty, and of nothing at all, without an end
	a := single(of('a'))
	for _, x := range []api.Re{all(), one(), one(all(), a), one(a, all()), rep(0, -1, a), rep(0, 0, a), rep(0, 1, a), rep(2, 3, all()), single(of()), all(all(), all())} {
		for _, re := range []api.Re{rep(0, -1, x), rep(1, -1, x), rep(3, -1, x), rep(0, -1, rep(0, -1, x)), all(rep(0, -1, x), a), rep(0, -1, one(x, rep(1, -1, x)))} {
			l, e := prog.Make(re)
			if e != api.OK {
				t.Fatal(e)
			}
			for _, s := range texts("ab", 4) {
				if got, e := Match(l, s); got != meant(re, s) || e != api.OK {
					t.Errorf("Match(%s, %q): %v, %v", told(l), s, got, e)
				}
			}
		}
	}
}

func TestDrawnPatterns(t *testing.T) { // 12.3, and against another reading of the same language
	r := rand.New(rand.NewSource(124))
	count := [2]int{}
	for range 12000 {
		pattern := drawnPattern(r, 1+r.Intn(4))
		other, err := regexp.Compile(`\A(?:` + pattern + `)\z`)
		if err != nil {
			t.Fatalf("%q: %v", pattern, err)
		}
		s := drawnText(r, "abc\n", 6)
		got := mustMean(t, pattern, s)
		if got != other.MatchString(s) {
			t.Fatalf("%q, %q: %v, not so elsewhere", pattern, s, got)
		}
		if got {
			count[0]++
		} else {
			count[1]++
		}
	}
	if slices.Min(count[:]) < 1500 {
		t.Errorf("drawn: %v", count)
	}
}

// means is what Full says of a pattern that is one.
func means(t *testing.T, pattern, s string) bool {
	t.Helper()
	ok, _, e := Full(pattern, s)
	if e != api.OK {
		t.Fatalf("Full(%q, %q): %v", pattern, s, e)
	}
	return ok
}

// repeats is whether s is empty, or can be cut in one that pattern means, and is not empty, and one that is so repeated.
func repeats(t *testing.T, pattern, s string) bool {
	if s == "" {
		return true
	}
	for k := 1; k <= len(s); k++ {
		if means(t, pattern, s[:k]) && repeats(t, pattern, s[k:]) {
			return true
		}
	}
	return false
}

func TestPutTogether(t *testing.T) { // 12.5
	r := rand.New(rand.NewSource(125))
	count := [3][2]int{}
	tally := func(what int, yes bool) {
		if yes {
			count[what][0]++
		} else {
			count[what][1]++
		}
	}
	for range 6000 {
		p, q := "("+drawnPattern(r, 1+r.Intn(3))+")", "("+drawnPattern(r, 1+r.Intn(3))+")"
		s := drawnText(r, "abc\n", 5)
		cut := false
		for k := range len(s) + 1 {
			cut = cut || means(t, p, s[:k]) && means(t, q, s[k:])
		}
		either, again := means(t, p, s) || means(t, q, s), repeats(t, p, s)
		if got := means(t, p+q, s); got != cut {
			t.Fatalf("%q behind each other, %q: %v", p+q, s, got)
		}
		if got := means(t, p+"|"+q, s); got != either {
			t.Fatalf("%q, %q: %v", p+"|"+q, s, got)
		}
		if got := means(t, p+"*", s); got != again {
			t.Fatalf("%q, %q: %v", p+"*", s, got)
		}
		tally(0, cut)
		tally(1, either)
		tally(2, again)
	}
	for what, x := range count {
		if slices.Min(x[:]) < 400 {
			t.Errorf("%d: drawn: %v", what, x)
		}
	}
}
