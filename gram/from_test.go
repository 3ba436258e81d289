package gram

import (
	"math/rand"
	"slices"
	"strconv"
	"strings"
	"testing"

	"tidepole/api"
	"tidepole/prog"
	"tidepole/sim"
	"tidepole/syntax"
)

// mustAsk holds the query of r, as a text, against what it must be.
func mustAsk(t *testing.T, what string, r api.Re, want string) {
	t.Helper()
	for range 2 {
		q, e := From(r)
		if got := textBy(q); got != want || e != api.OK {
			t.Errorf("From(%s): %s, %v, want %s", what, got, e, want)
		}
	}
}

// mustFrom is the query of an r that may be.
func mustFrom(t *testing.T, r api.Re) Query {
	t.Helper()
	q, e := From(r)
	if e != api.OK {
		t.Fatalf("From(%s): %v", toldRe(r), e)
	}
	return q
}

// mustAskPattern is mustAsk of a pattern.
func mustAskPattern(t *testing.T, pattern, want string) {
	t.Helper()
	r, at, e := syntax.Parse(pattern)
	if e != api.OK {
		t.Fatalf("%q: %d, %v", pattern, at, e)
	}
	mustAsk(t, pattern, r, want)
}

func TestPatterns(t *testing.T) { // 14.1, by hand
	for _, x := range []struct{ pattern, want string }{
		{"abcd|xyz", "[(|abc| |bcd|) |xyz|]"},
		{"ab*", "*"},
		{"(a|b)cd.efg", "([|acd| |bcd|] |efg|)"},
		{"", "*"}, {"a", "*"}, {"ab", "*"}, {"abc", "|abc|"}, {"abcd", "(|abc| |bcd|)"}, {"aaaa", "|aaa|"}, {"zabc", "(|abc| |zab|)"}, // rising grams
		{".", "*"}, {".*", "*"}, {".+", "*"}, {"...", "*"}, {"|", "*"}, {"()", "*"},

		// texts, and their order
		{"xyz|abc", "[|abc| |xyz|]"}, {"abc|abc", "|abc|"}, {"abc|xyz|abc", "[|abc| |xyz|]"}, {"abc|ab", "*"}, {"abc|", "*"},
		{"abcd|bcda", "[(|abc| |bcd|) (|bcd| |cda|)]"}, {"abab|baba", "(|aba| |bab|)"}, // two texts with the same grams
		{"[ba]cd", "[|acd| |bcd|]"}, {`[\xff\x00]ab`, "[|\x00ab| |\xffab|]"},
		{"(a|aa)(a|aa)b", "[(|aaa| |aab|) |aab|]"},
		{"abc(d|e)f", "[(|abc| |bcd| |cdf|) (|abc| |bce| |cef|)]"},
		{"(abc|d)ef", "[(|abc| |bce| |cef|) |def|]"},
		{"[ab][cd][ef]", "[|ace| |acf| |ade| |adf| |bce| |bcf| |bde| |bdf|]"},

		// of all: as many as can be told together, then what is left
		{"abc.def", "(|abc| |def|)"}, {"abc.abc", "|abc|"}, {"abc.*abc", "|abc|"}, {".abc", "|abc|"}, {"abc.", "|abc|"}, {"[^a]bcd", "|bcd|"}, {"ab.cd", "*"}, {"ab.cde", "|cde|"},
		{"abc.d.efg", "(|abc| |efg|)"}, {"abc.x*.efg", "(|abc| |efg|)"}, {"abc(x.yzw)def", "(|abc| |yzw| |def|)"},
		{"(ab.)cde", "|cde|"}, // what a member in the midst ends with is not told with what is behind it
		{"a(b)c", "|abc|"}, {"a(bc|b)d", "[(|abc| |bcd|) |abd|]"},
		{"abcd.abc", "(|abc| |bcd|)"}, {"abc.abcd", "(|abc| |bcd|)"}, // the same ones: the first stays
		{"bcd.abcd", "(|bcd| |abc|)"},
		{"(abcd.)(cde.abc)", "(|abc| |bcd| |cde|)"}, // one Op 3 within another
		{"(abc.def)ghi", "(|abc| |def| |ghi|)"},
		{"((abc.def).(ghi.abc)).jkl", "(|abc| |def| |ghi| |jkl|)"},
		{"(abc|xyz).(xyz|abc)", "[|abc| |xyz|]"},                 // left alone
		{"(abc|xyz).(abc|xyw)", "([|abc| |xyz|] [|abc| |xyw|])"}, // no Op 4 is opened within one of Op 3
		{"(abc.def|xyz).", "[(|abc| |def|) |xyz|]"},
		{"(abc.def|xyz).abc.def", "([(|abc| |def|) |xyz|] |abc| |def|)"},

		// of one, if it has no texts to tell
		{"abc.|xyz", "[|abc| |xyz|]"}, {"xyz.|abc", "[|xyz| |abc|]"}, // in L's order
		{"abc.|abc", "|abc|"}, {"abc.|.abc", "|abc|"}, {"abc|.*", "*"}, {".|abc", "*"}, {"abc.|d", "*"}, {"abc.|", "*"},
		{"(abc.|def)|ghi", "[|abc| |def| |ghi|]"}, // one Op 4 within another
		{"(abc.|def)|(def|abc)", "[|abc| |def|]"},
		{"((abc.|def)|(ghi.|abc))|jkl", "[|abc| |def| |ghi| |jkl|]"},
		{"abc.def|abc.xyz", "[(|abc| |def|) (|abc| |xyz|)]"}, // no Op 3 is opened within one of Op 4
		{"abc.def|def.abc", "[(|abc| |def|) (|def| |abc|)]"}, // not the same ones
		{"abc.def|abc.def", "(|abc| |def|)"},
		{"(abc.def|abc.xyz).abc", "([(|abc| |def|) (|abc| |xyz|)] |abc|)"},
		{"(abc.def|ghi)|(ghi|abc.def)|x.yz1", "[(|abc| |def|) |ghi| |yz1|]"},
		{"(abcd|abc.|bcd)|[x-z]bc", "[(|abc| |bcd|) |abc| |bcd| |xbc| |ybc| |zbc|]"},

		// times
		{"(abc)*", "*"}, {"(abc|xyz)?", "*"}, {"(abc){0,3}", "*"}, {"(abc){0,}", "*"}, {"(abc){0}", "*"}, {".{0}", "*"},
		{"(abc)+", "|abc|"}, {"(abc)+x", "|abc|"}, {"(abc){1,}", "|abc|"}, {"(abc){2,}", "|abc|"}, {"(abc){1,2}", "|abc|"}, {"(abc){2,3}", "|abc|"},
		{"(abc){1}", "|abc|"}, {"(abc){2}", "(|abc| |bca| |cab|)"}, {"a{4}", "|aaa|"}, {"a{2}", "*"}, {"a{3}", "|aaa|"}, {"a{3,}", "*"}, {"a{3,4}", "*"}, {"a{2}b", "|aab|"}, {"a{3,}b", "*"},
		{"(ab)+cde", "|cde|"}, {"x(abc){0}yz", "|xyz|"}, {"x.{0}yz", "|xyz|"}, // no times of it: the empty text, whatever it is
		{"x(abc)?yz1", "|yz1|"}, {"x(){5}yz", "|xyz|"}, {"x(){64}yz", "|xyz|"}, {"x()*yz", "*"},
		{"[ab]{3}", "[|aaa| |aab| |aba| |abb| |baa| |bab| |bba| |bbb|]"},
		{"(a|bc){2}", "*"}, {"(ab|bc){2}", "[(|aba| |bab|) (|abb| |bbc|) (|bca| |cab|) (|bcb| |cbc|)]"},
		{"(abc.){2}", "|abc|"}, {"(abc.|xyz){3,}", "[|abc| |xyz|]"}, {"(abc.|xyz){0,3}", "*"}, {"((abc){2}){1,2}", "(|abc| |bca| |cab|)"},
	} {
		mustAskPattern(t, x.pattern, x.want)
	}
}

func TestRes(t *testing.T) { // 14.1, by hand: what no pattern stands for, and nothing among what there is
	none, abc, bcd := of(), lit("abc"), lit("bcd")
	for what, x := range map[string]struct {
		r    api.Re
		want string
	}{
		"no byte":                                  {none, "-"},
		"one of none":                              {one(), "-"},
		"all of none":                              {each(), "*"},
		"all of no byte":                           {each(none), "-"},
		"no byte behind abc":                       {each(abc, none), "-"},
		"no byte behind what has none to tell":     {each(anyByte(), none), "-"},
		"no byte ahead of it":                      {each(none, anyByte()), "-"},
		"no byte between":                          {each(abc, anyByte(), none, anyByte(), bcd), "-"},
		"one of no byte and abc":                   {one(none, abc), "|abc|"},
		"one of no byte, abc and any byte":         {one(none, abc, anyByte()), "*"},
		"one of abc and any behind no byte":        {one(abc, each(none, anyByte())), "|abc|"},
		"none and none, with none to tell":         {one(each(none, anyByte()), each(anyByte(), none)), "-"},
		"none and none behind each other":          {each(each(none, anyByte()), each(anyByte(), none)), "-"},
		"all and none":                             {one(each(none, anyByte()), anyByte()), "*"},
		"none from 0 on":                           {rep(0, -1, none), "*"},
		"none from 1 on":                           {rep(1, -1, none), "-"},
		"none 0 times":                             {rep(0, 0, none), "*"},
		"none once":                                {rep(1, 1, none), "-"},
		"none 64 times":                            {rep(64, 64, none), "-"},
		"abc, none 0 times":                        {each(lit("a"), rep(0, 0, none), lit("bc")), "|abc|"},
		"one member of one":                        {one(abc), "|abc|"},
		"one member of all":                        {each(each(each(abc))), "|abc|"},
		"one member with none to tell":             {one(each(abc, anyByte())), "|abc|"},
		"a byte by 0":                              {each(of(0), of(0), of(0)), "|\x00\x00\x00|"},
		"bytes at the ends of words":               {each(of(0, 63), of(64, 127), of(128, 255)), "[|\x00\x40\x80| |\x00\x40\xff| |\x00\x7f\x80| |\x00\x7f\xff| |\x3f\x40\x80| |\x3f\x40\xff| |\x3f\x7f\x80| |\x3f\x7f\xff|]"},
		"all of it, opened once":                   {each(each(abc, anyByte(), bcd), anyByte(), lit("cde")), "(|abc| |bcd| |cde|)"},
		"one of it, opened once":                   {one(one(each(abc, anyByte()), bcd), each(anyByte(), lit("cde"))), "[|abc| |bcd| |cde|]"},
		"32 bytes, 0 times of more":                {each(lit(strings.Repeat("a", 32)), rep(0, 0, lit("b"))), "|aaa|"},
		"what is too long, 0 times":                {each(lit("ab"), rep(0, 0, lit(strings.Repeat("x", 33))), lit("c")), "|abc|"},
		"what is nothing, behind what is too long": {each(lit(strings.Repeat("a", 33)), none), "-"},
	} {
		mustAsk(t, what, x.r, x.want)
	}
}

func TestSets(t *testing.T) { // 14.1: a byte whose Set has 8 members, and one of 9
	want := func(n int) string {
		l := []string{}
		for k := range n {
			l = append(l, "|"+string(byte('a'+k))+"xy|")
		}
		return "[" + strings.Join(l, " ") + "]"
	}
	for n := 2; n <= 8; n++ {
		mustAsk(t, "a Set", each(some('a', n), lit("xy")), want(n))
	}
	for _, n := range []int{9, 10, 33, 255} {
		mustAsk(t, "a Set", each(some('a', n), lit("xy")), "*")
		mustAsk(t, "a Set", each(some('a', n), lit("xyz")), "|xyz|")
	}
	mustAsk(t, "a Set of 8 at the end", each(some(248, 8), lit("xy")), strings.NewReplacer("a", "\xf8", "b", "\xf9", "c", "\xfa", "d", "\xfb", "e", "\xfc", "f", "\xfd", "g", "\xfe", "h", "\xff").Replace(want(8)))
	mustAsk(t, "8 or one more", each(one(some('a', 8), of('i')), lit("xy")), want(9)) // 9 texts, but of no one Set
	mustAskPattern(t, "[a-h]xy", want(8))
	mustAskPattern(t, "[a-i]xy", "*")
}

// toldAs is a query's text of those grams by that Op.
func toldAs(op int, grams ...string) string {
	var l []Query
	for _, g := range grams {
		l = append(l, three(g))
	}
	return textBy(Query{Op: op, L: l})
}

func TestManyTexts(t *testing.T) { // 14.1: just 32 texts, and 33; more than 32 on the way, though not at the end
	var l []api.Re
	var grams []string
	for k := range 33 {
		s := "z" + string([]byte{byte(100 - k), 'y'}) // falling, so that the order tells whether they are texts of one part
		l, grams = append(l, lit(s)), append(grams, s)
	}
	rising := slices.Sorted(slices.Values(grams[:32]))
	mustAsk(t, "one of 32", one(l[:32]...), toldAs(4, rising...))
	mustAsk(t, "one of 33", one(l...), toldAs(4, grams...))
	mustAsk(t, "one of 32, one of them twice", one(append(slices.Clone(l[:32]), l[0], l[7])...), toldAs(4, rising...)) // each once
	mustAsk(t, "one of 33 among others", each(lit("abc"), one(l...), lit("def")), textBy(allIn(three("abc"), Query{Op: 4, L: threes(grams)}, three("def"))))
	mustAsk(t, "one of 31, and of 2 by their own", one(one(l[:31]...), one(l[31:]...)), toldAs(4, append(slices.Sorted(slices.Values(grams[:31])), slices.Sorted(slices.Values(grams[31:]))...)...))

	three32, three33 := each(some('a', 8), some('a', 4), of('x')), each(some('a', 8), of('a', 'b', 'c', 'd', 'e'), of('x'))
	mustAsk(t, "8 times 4", three32, toldAs(4, product(8, 4)...))
	mustAsk(t, "8 times 5", three33, "*")                                                                                                                             // a byte, and then a byte and x
	mustAsk(t, "8 times 5, and three bytes", each(some('a', 8), some('a', 5), lit("xyz")), "[(|axy| |xyz|) (|bxy| |xyz|) (|cxy| |xyz|) (|dxy| |xyz|) (|exy| |xyz|)]") // the second byte with what is behind it
	if q, want := mustFrom(t, rep(5, 5, of('a', 'b'))), queryBy(rep(5, 5, of('a', 'b'))); len(q.L) < 8 || !sameQuery(q, want) {
		t.Errorf("32 of two by two: %s, want %s", textBy(q), textBy(want))
	}
	mustAsk(t, "64 of two by two", rep(6, 6, of('a', 'b')), "*")
	mustAsk(t, "64 of two by two, with c", rep(6, 6, each(of('a', 'b'), lit("cde"))), textBy(oneIn(allIn(three("acd"), three("cde")), allIn(three("bcd"), three("cde")))))

	// on the way: nothing at the end, but too many ahead of it
	mustAsk(t, "64, then none", each(some('a', 8), some('a', 8), of()), "-")
	mustAsk(t, "a, any byte 0 times, bc", each(lit("a"), rep(0, 0, anyByte()), lit("bc")), "|abc|")
	mustAsk(t, "a, 32 with nothing, bc", each(lit("a"), each(some('a', 8), some('a', 4), of()), lit("bc")), "-")
	mustAsk(t, "one of abc, and 32 with nothing", one(lit("xyz"), lit("abc"), each(some('a', 8), some('a', 4), of())), "[|abc| |xyz|]") // texts
	mustAsk(t, "one of abc, and 40 with nothing", one(lit("xyz"), lit("abc"), each(some('a', 8), some('a', 5), of())), "[|xyz| |abc|]") // none to tell
	mustAsk(t, "one of abc, and nothing with 40", one(lit("xyz"), lit("abc"), each(of(), some('a', 8), some('a', 5))), "[|abc| |xyz|]") // nothing on the way
	mustAsk(t, "one of abc, and nothing with 9", one(lit("xyz"), lit("abc"), each(of(), some('a', 9))), "[|xyz| |abc|]")                // a member has none
	mustAsk(t, "one of abc, and 33 bytes with nothing", one(lit("xyz"), lit("abc"), each(rep(33, 33, of('a')), of())), "[|xyz| |abc|]")
	mustAsk(t, "one of abc, and 32 bytes with nothing", one(lit("xyz"), lit("abc"), each(rep(32, 32, of('a')), of())), "[|abc| |xyz|]")
	mustAsk(t, "one of abc, and 32 bytes, one, nothing", one(lit("xyz"), lit("abc"), each(rep(32, 32, of('a')), of('a'), of())), "[|xyz| |abc|]")

	// 64 pairs are 15 texts, each once
	upTo := func(n int) api.Re {
		var l []api.Re
		for k := range n {
			l = append(l, lit(strings.Repeat("a", k)))
		}
		return one(l...)
	}
	mustAsk(t, "64 pairs, 15 texts", one(lit("xyz"), lit("abc"), each(lit("b"), upTo(8), upTo(8), lit("aac"))), "[|abc| (|aaa| |aac| |baa|) (|aac| |baa|) |xyz|]")
	mustAsk(t, "64 pairs, 15 texts, then any byte", each(lit("b"), upTo(8), upTo(8), lit("aac"), anyByte()), "[(|aaa| |aac| |baa|) (|aac| |baa|)]")
}

func threes(grams []string) []Query {
	var l []Query
	for _, g := range grams {
		l = append(l, three(g))
	}
	return l
}

// product is the texts of a byte of n, one of m, both from a on, and x.
func product(n, m int) []string {
	var l []string
	for a := range n {
		for b := range m {
			l = append(l, string([]byte{'a' + byte(a), 'a' + byte(b), 'x'}))
		}
	}
	return l
}

func TestLongTexts(t *testing.T) { // 14.1: a text of 32 bytes, and of 33
	long := "0123456789ABCDEFGHIJKLMNOPQRSTUVW" // 33 bytes
	grams := gramsBy(long[:32])
	mustAsk(t, "32 bytes", lit(long[:32]), toldAs(3, grams...))
	mustAsk(t, "33 bytes", lit(long), toldAs(3, grams...)) // the last one stands alone
	mustAsk(t, "35 bytes", lit(long+"XY"), toldAs(3, append(slices.Clone(grams), "WXY")...))
	mustAsk(t, "64 bytes", each(lit(long[:32]), lit("abcd"), lit(strings.Repeat("a", 28))), toldAs(3, append(slices.Clone(grams), gramsBy("abcd"+strings.Repeat("a", 28))...)...))
	mustAsk(t, "65 bytes", lit(long+long[:32]), toldAs(3, append(slices.Clone(grams), except(gramsBy("W"+long[:31]), grams)...)...))
	mustAsk(t, "32 times a byte", rep(32, 32, of('a')), "|aaa|")
	mustAsk(t, "33 times a byte", rep(33, 33, of('a')), "*") // the query of one alone
	mustAsk(t, "11 times three bytes", rep(11, 11, lit("abc")), "|abc|")
	mustAsk(t, "10 times three bytes", rep(10, 10, lit("abc")), "(|abc| |bca| |cab|)")
	mustAsk(t, "8 times four bytes", rep(8, 8, lit("abcd")), "(|abc| |bcd| |cda| |dab|)")
	mustAsk(t, "8 times four bytes, and one", each(rep(8, 8, lit("abcd")), lit("x"), lit("yz")), "(|abc| |bcd| |cda| |dab| |xyz|)")
	mustAsk(t, "one of 32 bytes, and short", one(lit("xyz"), lit(strings.Repeat("a", 32))), "[|aaa| |xyz|]")
	mustAsk(t, "one of 33 bytes, and short", one(lit("xyz"), lit(strings.Repeat("a", 33))), "[|xyz| |aaa|]")
	mustAsk(t, "one of 32 bytes behind 1", each(lit("b"), one(lit("xyz"), lit(strings.Repeat("a", 32)))), "[|aaa| |xyz|]") // together one of them is too long
	mustAsk(t, "one of 31 bytes behind 1", each(lit("b"), one(lit("xyz"), lit(strings.Repeat("a", 31)))), "[(|aaa| |baa|) (|bxy| |xyz|)]")
	mustAsk(t, "64 times of a text without bytes", each(lit("a"), rep(64, 64, rep(64, 64, each())), lit("bc")), "|abc|")
}

// except is what is in a, and not in b.
func except(a, b []string) []string {
	return slices.DeleteFunc(slices.Clone(a), func(s string) bool { return slices.Contains(b, s) })
}

func TestDrawnFrom(t *testing.T) { // 14.1, against the words
	r := rand.New(rand.NewSource(149))
	ops := [5]int{}
	for range 12000 {
		x := drawnRe(r, r.Intn(6))
		want := queryBy(x)
		got, e := From(x)
		if !sameQuery(got, want) || e != api.OK {
			t.Fatalf("From(%s): %s, %v, want %s", toldRe(x), textBy(got), e, textBy(want))
		}
		ops[want.Op]++
	}
	if slices.Min(ops[:]) < 300 {
		t.Errorf("drawn: %v", ops)
	}
}

func TestFormOfQueries(t *testing.T) { // 14.1: what is put together has no all, no none, not the same twice, no Op within the same Op, and no member alone
	r := rand.New(rand.NewSource(150))
	var mustBeFormed func(q Query)
	mustBeFormed = func(q Query) {
		if q.Op > 2 && len(q.L) < 2 || q.Op < 3 && len(q.L) > 0 {
			t.Fatalf("%s", textBy(q))
		}
		for k, x := range q.L {
			if x.Op < 2 || x.Op == q.Op || slices.ContainsFunc(q.L[:k], func(y Query) bool { return sameQuery(x, y) }) {
				t.Fatalf("%s", textBy(q))
			}
			mustBeFormed(x)
		}
	}
	for range 5000 {
		q, _ := From(drawnRe(r, 5))
		mustBeFormed(q)
	}
}

func TestWrongRes(t *testing.T) { // 14.1, P1: a Re that may not be
	ring := api.Re{Kind: 2, L: make([]api.Re, 2)}
	ring.L[0], ring.L[1] = ring, ring
	deep := lit("a")
	for range 127 {
		deep = rep(1, 1, deep)
	}
	wide := each(slices.Repeat([]api.Re{of('a')}, 4096)...)
	bad := []api.Re{
		{}, {Kind: 5}, {Kind: -1}, {Kind: 4}, {Kind: 1, L: []api.Re{of('a')}}, {Kind: 2, Set: set('a')}, {Kind: 3, Min: 1}, {Kind: 1, Max: 1},
		rep(-1, -1, of('a')), rep(2, 1, of('a')), rep(0, 65, of('a')), rep(65, -1, of('a')), rep(0, -2, of('a')), {Kind: 4, L: []api.Re{of('a'), of('b')}},
		ring, deep, wide,
	}
	for _, x := range bad {
		for _, r := range []api.Re{x, each(x), one(lit("abc"), x), each(anyByte(), x, lit("abc")), rep(0, 0, x), rep(0, -1, x)} {
			for range 2 {
				if q, e := From(r); !sameQuery(q, Query{}) || len(q.L) != 0 || e != api.ErrArg {
					t.Errorf("From of a wrong Re of the Kind %d: %v, %v, want ErrArg", x.Kind, q, e)
				}
			}
		}
	}
}

func TestMeaningsFit(t *testing.T) { // 14.3: what a pattern means fits its query
	r := rand.New(rand.NewSource(151))
	asked, others := 0, 0
	for range 20000 {
		x := drawnRe(r, r.Intn(6))
		q, _ := From(x)
		l, e := prog.Make(x)
		if e != api.OK || !mayBe(q) {
			continue
		}
		for range 3 {
			s, ok := drawnMeant(r, x)
			if !ok {
				s = drawnText(r, 8)
			}
			if means, e := sim.Match(l, s); e == api.OK && means {
				mustFit(t, q, s, true)
				if q.Op > 1 {
					asked++
				}
			} else if ok && e == api.OK {
				t.Fatalf("%s does not mean %q", toldRe(x), s)
			}
			if q.Op > 1 && !fitsText(q, drawnText(r, 8)) {
				others++
			}
		}
	}
	if asked < 5000 || others < 5000 {
		t.Errorf("drawn: %d meant, %d that do not fit", asked, others)
	}
}

func TestPatternsFit(t *testing.T) { // 14.3, by hand: and what does not fit is not meant
	for _, x := range []struct {
		pattern  string
		are, not []string // texts that fit, and that do not
	}{
		{"abcd|xyz", []string{"abcd", "xyz", "bcdabc"}, []string{"abc", "xy", ""}},
		{"ab*", []string{"a", "abb", ""}, nil},
		{"(a|b)cd.efg", []string{"acdxefg", "bcd\x00efg"}, []string{"ccdxefg", "acdxeg"}},
		{"(abc)+x", []string{"abcx", "abcabcx"}, []string{"abx"}},
		{"a{4}", []string{"aaaa", "aaa"}, []string{"aa"}},
		{"(abc|xyz)?", []string{"", "abc", "xyz"}, nil},
		{"abc|ab", []string{"abc", "ab"}, nil},
	} {
		re, _, _ := syntax.Parse(x.pattern)
		q, e := From(re)
		if e != api.OK {
			t.Fatal(e)
		}
		for _, s := range x.are {
			mustFit(t, q, s, true)
		}
		for _, s := range x.not {
			mustFit(t, q, s, false)
			if ok, _, e := sim.Full(x.pattern, s); ok || e != api.OK {
				t.Errorf("%q means %q: %v, %v", x.pattern, s, ok, e)
			}
		}
	}
}

func TestFoundByGrams(t *testing.T) { // 14.4, with 14.3: of texts in an index, all that a pattern means are found
	r := rand.New(rand.NewSource(152))
	found := 0
	for range 1500 {
		x := drawnRe(r, 1+r.Intn(4))
		q, _ := From(x)
		if !mayBe(q) {
			continue
		}
		var l []string
		var all, want []uint64
		for n := range uint64(20) {
			s, ok := drawnMeant(r, x)
			if !ok || r.Intn(2) == 0 {
				s = drawnText(r, 8)
			}
			l, all = append(l, s), append(all, 3*n)
			if fits, e := Fits(q, s); e == api.OK && fits {
				want = append(want, 3*n)
			}
		}
		mustEval(t, q, indexOf(l, 3), all, want)
		if len(want) > 0 && len(want) < len(all) {
			found++
		}
	}
	if found < 300 {
		t.Errorf("only %d with some numbers", found)
	}
}

func TestQuotedSelf(t *testing.T) { // 14.5: a text fits the query of its quoted self
	r := rand.New(rand.NewSource(153))
	l := []string{"", "a", "ab", "abc", "abcd", "a.b*", "\x00\x00\x00", "\xff\xfe\xfd", "|||", "(a|b)", strings.Repeat("a", 256), strings.Repeat("\n", 64)}
	for range 2000 {
		l = append(l, drawnText(r, 80))
	}
	for range 500 {
		b := make([]byte, r.Intn(80))
		r.Read(b)
		l = append(l, string(b))
	}
	asked := 0
	for _, s := range l {
		x, _, e := syntax.Parse(syntax.Quote(s))
		if e == api.ErrLong {
			continue
		}
		q, f := From(x)
		if e != api.OK || f != api.OK || Check(q) != api.OK {
			t.Fatalf("%q: %v, %v, %v", s, e, f, Check(q))
		}
		mustFit(t, q, s, true)
		if len(s) <= 32 { // all of its grams
			if want := putTogether(3, threes(gramsBy(s))); !sameQuery(q, want) {
				t.Fatalf("%q: %s, want %s", s, textBy(q), textBy(want))
			}
		}
		if q.Op > 1 {
			asked++
		}
	}
	if asked < 1000 {
		t.Errorf("only %d that ask for something", asked)
	}
}

// climbing is a pattern whose query is n deep.
func climbing(n int) string {
	s := "abc"
	for k := 1; k < n; k++ {
		name := strconv.Itoa(100 + k)
		if k%2 == 1 {
			s = "(?:" + s + ")." + name
		} else {
			s = s + "|" + name + "."
		}
	}
	return s
}

func TestDepthOfQueries(t *testing.T) { // 14.5: a query that is 8 deep may be, one of 9 not, though it is handed out
	for n := 1; n <= 20; n++ {
		x, _, e := syntax.Parse(climbing(n))
		if e != api.OK {
			t.Fatal(e)
		}
		q, e := From(x)
		if e != api.OK || depthBy(q) != n || !sameQuery(q, queryBy(x)) {
			t.Fatalf("From(%s): %s, %v", climbing(n), textBy(q), e)
		}
		want, text := api.OK, textBy(q)
		if n > 8 {
			want, text = api.ErrArg, ""
		}
		_, f := Fits(q, "abc")
		_, g := Eval(q, sample(), nil)
		if Check(q) != want || f != want || g != want || Text(q) != text {
			t.Errorf("%d deep: %v, %v, %v, %q", n, Check(q), f, g, Text(q))
		}
	}
}

func TestGreatQueries(t *testing.T) { // 14.5: a query of MaxItems queries may be, one of more not, though it is handed out
	var l []api.Re
	for k := range 127 { // 32 grams each
		l = append(l, each(some('a', 8), some('A', 4), of(byte(k))))
	}
	l = append(l, each(some('a', 8), some('A', 3), of(127)), each(some('a', 6), of('B'), of(128))) // and 24, and 6
	for n, want := range []api.Errno{api.OK, api.OK, api.ErrArg, api.ErrArg} {                     // n grams more
		x := one(slices.Clone(l)...)
		for k := range n {
			x.L = append(x.L, lit("xx"+string(byte('a'+k))))
		}
		q, e := From(x)
		if e != api.OK || sizeBy(q) != api.MaxItems-1+n {
			t.Fatalf("%d queries, %v", sizeBy(q), e)
		}
		ok, f := Fits(q, "aAAaA\x00")
		if Check(q) != want || f != want || ok != (want == api.OK) || (Text(q) == "") != (want != api.OK) {
			t.Errorf("%d queries: %v, %v, %v", sizeBy(q), Check(q), f, ok)
		}
	}
}

func TestGreatestRes(t *testing.T) { // P1: it ends, however great the Re is that may be
	words := func(n, size int) api.Re { // all different, with texts on the way that are many and long
		var l []api.Re
		for k := range n {
			x := each()
			for m := range size {
				x.L = append(x.L, of(byte(k), byte(k>>8), byte(m)))
			}
			l = append(l, x)
		}
		return one(l...)
	}
	deep := each(words(20, 20), anyByte())
	for k := range 55 {
		deep = each(one(deep, lit("qq"+string(byte(k)))), lit(string([]byte{byte(k), 0, 1, 2})), anyByte())
	}
	same := of('a')
	for range 60 {
		same = rep(64, 64, one(each(), same))
	}
	l := []api.Re{words(60, 60), words(1, 4000), words(900, 3), deep, same, rep(64, 64, words(60, 60)), each(slices.Repeat([]api.Re{of('a', 'b')}, 4095)...), one(slices.Repeat([]api.Re{anyByte()}, 4095)...)}
	for k, x := range l {
		if !syntax.Check(x) {
			t.Fatalf("Re %d may not be: %d Res", k, syntax.Size(x))
		}
		if q, e := From(x); e != api.OK || Check(q) == api.OK && Text(q) == "" {
			t.Errorf("Re %d: %v", k, e)
		}
	}
}

func TestFromSharesNothing(t *testing.T) { // rule 4: what is handed in stays, and what is handed out is the caller's own
	r := rand.New(rand.NewSource(154))
	for range 3000 {
		x := drawnRe(r, 1+r.Intn(4))
		if r.Intn(2) == 0 { // one part in two places
			x = one(each(x, anyByte(), lit("abc")), each(x, anyByte(), lit("abd")), each(x, anyByte()))
		}
		was := toldRe(x)
		first, _ := From(x)
		again, _ := From(x)
		want := textBy(first)
		if toldRe(x) != was {
			t.Fatalf("%s has become %s", was, toldRe(x))
		}
		for k := range first.L { // no list of an answer is part of another one
			spoil(first.L[k])
			if got := textBy(Query{Op: 3, L: first.L[k+1:]}); got != textBy(Query{Op: 3, L: again.L[k+1:]}) {
				t.Fatalf("%s: behind member %d: %s", want, k, got)
			}
		}
		spoil(first)
		for k := range x.L {
			x.L[k] = api.Re{Kind: 9}
		}
		if got := textBy(again); got != want {
			t.Fatalf("%s has become %s", want, got)
		}
	}
}
