package gram

import (
	"fmt"
	"math"
	"math/rand"
	"slices"
	"strings"
	"testing"
	"unsafe"

	"tidepole/api"
	"tidepole/post"
)

const highest = math.MaxUint64

func TestGrams(t *testing.T) { // 14.1, by hand
	for _, x := range []struct {
		s    string
		want []string
	}{
		{"", nil},
		{"a", nil},
		{"ab", nil},
		{"abc", []string{"abc"}},
		{"abcd", []string{"abc", "bcd"}},
		{"zabc", []string{"abc", "zab"}}, // rising, not as they stand there
		{"aaaa", []string{"aaa"}},        // each once
		{"aaaaaaaa", []string{"aaa"}},
		{"abab", []string{"aba", "bab"}},
		{"ababab", []string{"aba", "bab"}},
		{"abcabc", []string{"abc", "bca", "cab"}},
		{"abc abc", []string{" ab", "abc", "bc ", "c a"}},
		{"\x00\x00\x00", []string{"\x00\x00\x00"}},
		{"\xff\x00\x7f\x80", []string{"\x00\x7f\x80", "\xff\x00\x7f"}}, // bytes, as numbers without a sign
		{"aé", []string{"a\xc3\xa9"}},                                  // and not signs of more bytes
		{"éé", []string{"\xa9\xc3\xa9", "\xc3\xa9\xc3"}},
		{"a\xffb", []string{"a\xffb"}},
		{"|||", []string{"|||"}},
	} {
		for range 2 {
			if got := Grams(x.s); !slices.Equal(got, x.want) {
				t.Errorf("Grams(%q): %q, want %q", x.s, got, x.want)
			}
		}
	}
}

func TestDrawnGrams(t *testing.T) { // 14.1, against the words
	r := rand.New(rand.NewSource(141))
	for range 5000 {
		s := drawnText(r, 40)
		if got, want := Grams(s), gramsBy(s); !slices.Equal(got, want) {
			t.Fatalf("Grams(%q): %q, want %q", s, got, want)
		}
	}
	long := make([]byte, 200000)
	r.Read(long)
	if got, want := Grams(string(long)), gramsBy(string(long)); !slices.Equal(got, want) {
		t.Errorf("a long text: %d grams, want %d", len(got), len(want))
	}
}

func TestGramsAreTheCallersOwn(t *testing.T) { // rule 4
	s := strings.Repeat("abcabd", 3)
	l := Grams(s)
	first, end := uintptr(unsafe.Pointer(unsafe.StringData(s))), uintptr(len(s))
	for _, g := range l {
		if at := uintptr(unsafe.Pointer(unsafe.StringData(g))); at >= first && at < first+end {
			t.Errorf("%q is a piece of the text", g)
		}
	}
	want := slices.Clone(l)
	for k := range l {
		l[k] = "changed"
	}
	if got := Grams(s); !slices.Equal(got, want) {
		t.Errorf("%q, want %q", got, want)
	}
}

// nested is q in n queries of the Op 3 and 4, in turn, one within another.
func nested(n int, q Query) Query {
	for k := range n {
		q = Query{Op: 3 + k%2, L: []Query{q}}
	}
	return q
}

// wide is a query of the Op of n others.
func wide(op, n int, q Query) Query { return Query{Op: op, L: slices.Repeat([]Query{q}, n)} }

// ring is a query that holds itself, n times.
func ring(op, n int) Query {
	q := Query{Op: op, L: make([]Query, n)}
	for k := range q.L {
		q.L[k] = q
	}
	return q
}

// rightQueries may be, at the edges.
func rightQueries() []Query {
	l := []Query{
		everything(), nothing(), three("abc"), three("\x00\x00\x00"), three("\xff|)"), allIn(), oneIn(),
		{Op: 0, L: []Query{}}, {Op: 1, L: []Query{}}, {Op: 2, Text: "abc", L: []Query{}}, {Op: 3, L: []Query{}}, {Op: 4, L: []Query{}},
		allIn(three("abc")), oneIn(three("abc")), allIn(allIn(three("abc")), allIn()), oneIn(oneIn(three("abc")), oneIn()), // not put together, but queries
		allIn(everything(), nothing(), three("abc"), three("abc")), oneIn(everything(), nothing(), three("abc"), three("abc")),
		allIn(oneIn(three("abc"), three("bcd")), three("xyz")),
		nested(7, three("abc")), nested(7, everything()), nested(7, nothing()), nested(7, allIn()), nested(7, oneIn()), // 8 deep
		allIn(everything(), nested(6, three("abc"))), oneIn(nested(6, three("abc")), nested(6, three("abd")), nothing()),
	}
	for _, op := range []int{3, 4} {
		l = append(l, wide(op, api.MaxItems-1, three("abc")), wide(op, api.MaxItems-1, everything()), wide(op, api.MaxItems-1, nothing()))
		l = append(l, wide(op, api.MaxItems-1, oneIn()), wide(op, 1, wide(7-op, api.MaxItems-2, three("xyz"))))
		l = append(l, wide(op, 63, wide(7-op, 64, three("abc")))) // 1 and 63 times 65: MaxItems together
	}
	return l
}

// wrongQueries may not be.
func wrongQueries() []Query {
	bad := []Query{
		{Op: -1}, {Op: 5}, {Op: 256}, {Op: 259, Text: "abc"}, {Op: math.MaxInt}, {Op: math.MinInt}, {Op: 5, Text: "abc"}, {Op: 5, L: []Query{{}}},
		{Op: 2}, {Op: 2, Text: "a"}, {Op: 2, Text: "ab"}, {Op: 2, Text: "abcd"}, {Op: 2, Text: "éé"}, {Op: 2, Text: strings.Repeat("abc", 100)},
		{Op: 0, Text: "abc"}, {Op: 1, Text: "abc"}, {Op: 3, Text: "abc"}, {Op: 4, Text: "abc"}, {Op: 0, Text: "a"}, {Op: 3, Text: "\x00"},
		{Op: 3, Text: "abc", L: []Query{three("abc")}}, {Op: 4, Text: "abc", L: []Query{three("abc")}},
		{Op: 0, L: []Query{{}}}, {Op: 1, L: []Query{{}}}, {Op: 2, Text: "abc", L: []Query{{}}}, {Op: 0, L: []Query{three("abc")}}, {Op: 2, Text: "abc", L: []Query{three("abc")}},
		nested(8, three("abc")), nested(8, everything()), nested(8, allIn()), nested(8, oneIn()), nested(500, three("abc")), // 9 deep
		ring(3, 1), ring(4, 1), ring(3, 2), ring(4, 300), ring(0, 1), ring(2, 1),
	}
	var l []Query
	for _, q := range bad { // as it is, and as the first, the last and a middle member
		l = append(l, q, allIn(q), oneIn(q), allIn(everything(), q), oneIn(q, everything()), oneIn(three("abc"), q, three("abd")), allIn(oneIn(nothing()), oneIn(three("abc"), q)))
	}
	for _, op := range []int{3, 4} {
		l = append(l, wide(op, api.MaxItems, three("abc")), wide(op, api.MaxItems, everything()), wide(op, api.MaxItems, nothing()), wide(op, 3*api.MaxItems, three("abc")))
		l = append(l, wide(op, 1, wide(7-op, api.MaxItems-1, three("xyz"))), wide(op, 64, wide(7-op, 63, three("abc"))), wide(op, 63, wide(7-op, 65, oneIn())))
		l = append(l, Query{Op: op, L: append(slices.Repeat([]Query{three("abc")}, api.MaxItems-2), three("ab"))}) // the last of many
	}
	return l
}

// short is q as a text for a fault.
func short(q Query) string {
	if !mayBe(q) {
		return fmt.Sprintf("a wrong query of the Op %d", q.Op)
	}
	s := textBy(q)
	return s[:min(len(s), 200)]
}

func TestCheck(t *testing.T) { // 14.1
	for _, q := range rightQueries() {
		if e := Check(q); e != api.OK || !mayBe(q) {
			t.Errorf("Check(%s): %v", short(q), e)
		}
	}
	for k, q := range wrongQueries() {
		if e := Check(q); e != api.ErrArg {
			t.Errorf("Check of wrong query %d, Op %d: %v, want ErrArg", k, q.Op, e)
		}
	}
	r := rand.New(rand.NewSource(142))
	for range 3000 {
		if q := drawnQuery(r, 1+r.Intn(8)); Check(q) != api.OK {
			t.Fatalf("Check(%s): %v", textBy(q), Check(q))
		}
	}
}

func TestDrawnChecks(t *testing.T) { // 14.1: a query in which one thing is changed
	r := rand.New(rand.NewSource(143))
	count := [2]int{}
	for range 20000 {
		q := drawnQuery(r, 2+r.Intn(8))
		at := &q
		for len(at.L) > 0 && r.Intn(4) > 0 {
			at = &at.L[r.Intn(len(at.L))]
		}
		switch r.Intn(4) {
		case 0:
			at.Op = r.Intn(7) - 1
		case 1:
			at.Text = drawnText(r, 4)
		case 2:
			at.L = append(at.L, nested(r.Intn(5), everything()))
		case 3:
			at.L = nil
		}
		want := api.OK
		if !mayBe(q) {
			want = api.ErrArg
		}
		if e := Check(q); e != want {
			t.Fatalf("Check(%v): %v, want %v", q, e, want)
		}
		count[min(1, int(want))]++
	}
	if slices.Min(count[:]) < 3000 {
		t.Errorf("drawn: %v", count)
	}
}

func TestText(t *testing.T) { // 14.2
	for _, x := range []struct {
		q    Query
		want string
	}{
		{everything(), "*"}, {nothing(), "-"}, {three("abc"), "|abc|"}, {three("|||"), "|||||"}, {three("\x00\xff "), "|\x00\xff |"}, {three(") ["), "|) [|"},
		{allIn(), "()"}, {oneIn(), "[]"}, {allIn(everything()), "(*)"}, {oneIn(nothing()), "[-]"},
		{allIn(three("abc"), three("bcd")), "(|abc| |bcd|)"}, {oneIn(three("bcd"), three("abc"), three("abc")), "[|bcd| |abc| |abc|]"},
		{oneIn(allIn(three("abc"), nothing()), oneIn(), everything()), "[(|abc| -) [] *]"},
		{allIn(oneIn(three("acd"), three("bcd")), three("efg")), "([|acd| |bcd|] |efg|)"},
		{nested(7, three("abc")), "([([([(|abc|)])])])"},
	} {
		for range 2 {
			if got := Text(x.q); got != x.want {
				t.Errorf("Text: %q, want %q", got, x.want)
			}
		}
	}
	for _, q := range rightQueries() {
		if got, want := Text(q), textBy(q); got != want {
			t.Errorf("Text: %q, want %q", got, want)
		}
	}
	for k, q := range wrongQueries() {
		if got := Text(q); got != "" {
			t.Errorf("Text of wrong query %d: %q", k, got)
		}
	}
	r := rand.New(rand.NewSource(144))
	for range 5000 {
		q := drawnQuery(r, 1+r.Intn(8))
		if got, want := Text(q), textBy(q); got != want {
			t.Fatalf("Text: %q, want %q", got, want)
		}
	}
}

// mustFit holds what Fits says against what it must say.
func mustFit(t *testing.T, q Query, s string, want bool) {
	t.Helper()
	if got, e := Fits(q, s); got != want || e != api.OK {
		t.Fatalf("Fits(%s, %q): %v, %v, want %v", short(q), s[:min(100, len(s))], got, e, want)
	}
}

func TestFits(t *testing.T) { // 14.2, by hand
	abc, bcd, xyz := three("abc"), three("bcd"), three("xyz")
	for _, x := range []struct {
		q        Query
		are, not []string
	}{
		{everything(), []string{"", "a", "abc"}, nil},
		{nothing(), nil, []string{"", "a", "abc"}},
		{abc, []string{"abc", "xabc", "abcx", "ababc"}, []string{"", "ab", "bc", "abxc", "cba", "ABC", "ab\x00c"}},
		{three("\x00\xff\x00"), []string{"\xff\x00\xff\x00"}, []string{"\x00\xff", "\x00\x00\xff"}},
		{allIn(), []string{"", "abc"}, nil},
		{oneIn(), nil, []string{"", "abc"}},
		{allIn(abc), []string{"abc"}, []string{"ab"}},
		{oneIn(abc), []string{"abc"}, []string{"ab"}},
		{allIn(abc, bcd), []string{"abcd", "bcdabc"}, []string{"abc", "bcd", "", "abxbcd"}},
		{oneIn(abc, bcd), []string{"abc", "bcd", "abcd"}, []string{"", "abd"}},
		{allIn(abc, everything()), []string{"abc"}, []string{""}},
		{allIn(abc, nothing()), nil, []string{"abc"}},
		{oneIn(abc, everything()), []string{"abc", ""}, nil},
		{oneIn(abc, nothing()), []string{"abc"}, []string{""}},
		{oneIn(nothing(), nothing()), nil, []string{"abc"}},
		{allIn(everything(), everything()), []string{"abc"}, nil},
		{oneIn(allIn(abc, bcd), xyz), []string{"zabcd", "xyz", "abcxyz"}, []string{"abxbcd", "abc", "xy"}},
		{allIn(oneIn(abc, bcd), xyz), []string{"abcxyz", "bcdxyz", "xyzabcd"}, []string{"abcd", "xyz", "abcyz"}},
		{allIn(abc, abc, abc), []string{"abc"}, []string{"ab"}}, // once is enough
		{nested(7, abc), []string{"abc"}, []string{"ab"}},
		{wide(3, api.MaxItems-1, abc), []string{"abc"}, []string{"ab"}},
		{wide(4, api.MaxItems-1, nothing()), nil, []string{"ab"}},
		{Query{Op: 4, L: append(slices.Repeat([]Query{xyz}, api.MaxItems-2), abc)}, []string{"abc"}, []string{"abd"}}, // the last one
		{Query{Op: 3, L: append(slices.Repeat([]Query{xyz}, api.MaxItems-2), abc)}, []string{"abcxyz"}, []string{"xyz", "abc"}},
	} {
		for range 2 {
			for _, s := range x.are {
				mustFit(t, x.q, s, true)
			}
			for _, s := range x.not {
				mustFit(t, x.q, s, false)
			}
		}
	}
	long := strings.Repeat("ab", 1<<20) // a text has no bound
	mustFit(t, abc, long, false)
	mustFit(t, abc, long+"c", true)
	mustFit(t, wide(4, api.MaxItems-1, abc), long, false)
}

func TestDrawnFits(t *testing.T) { // 14.2, against the words
	r := rand.New(rand.NewSource(145))
	count := [2]int{}
	for range 30000 {
		q, s := drawnQuery(r, 1+r.Intn(5)), drawnText(r, 12)
		want := fitsText(q, s)
		mustFit(t, q, s, want)
		if q.Op > 1 && want {
			count[0]++
		} else if q.Op > 1 {
			count[1]++
		}
	}
	if slices.Min(count[:]) < 3000 {
		t.Errorf("drawn: %v", count)
	}
}

func TestWrongFits(t *testing.T) { // 14.2, P1
	for k, q := range wrongQueries() {
		for _, s := range []string{"", "abc", "abcabd"} {
			if ok, e := Fits(q, s); ok || e != api.ErrArg {
				t.Errorf("Fits of wrong query %d: %v, %v, want ErrArg", k, ok, e)
			}
		}
	}
}

func list(n ...uint64) []uint64 { return n }

// mustEval holds what Eval says against what it must say.
func mustEval(t *testing.T, q Query, x *post.Index, all, want []uint64) {
	t.Helper()
	got, e := Eval(q, x, all)
	if !slices.Equal(got, want) || e != api.OK {
		t.Fatalf("Eval(%s) of %v: %v, %v, want %v", short(q), all[:min(100, len(all))], got[:min(100, len(got))], e, want[:min(100, len(want))])
	}
}

// sample is an index: abc has 1, 3 and 9, bcd has 3, 4 and the highest number, xyz has 0 and 9.
func sample() *post.Index {
	x := post.New()
	for key, l := range map[string][]uint64{"abc": {1, 3, 9}, "bcd": {3, 4, highest}, "xyz": {0, 9}, "ab": {2}, "": {2}, "abcd": {2}} {
		for _, n := range l {
			x.Put(key, n)
		}
	}
	return x
}

func TestEval(t *testing.T) { // 14.2, by hand
	x := sample()
	abc, bcd, xyz := three("abc"), three("bcd"), three("xyz")
	all := list(0, 1, 2, 3, 4, 9, highest)
	for _, y := range []struct {
		q         Query
		all, want []uint64
	}{
		{everything(), all, all},
		{nothing(), all, nil},
		{abc, all, list(1, 3, 9)},
		{bcd, all, list(3, 4, highest)},
		{three("abd"), all, nil}, // no key
		{allIn(), all, all},
		{oneIn(), all, nil},
		{allIn(abc), all, list(1, 3, 9)},
		{oneIn(abc), all, list(1, 3, 9)},
		{allIn(abc, bcd), all, list(3)},
		{oneIn(abc, bcd), all, list(1, 3, 4, 9, highest)},
		{oneIn(bcd, abc), all, list(1, 3, 4, 9, highest)},
		{allIn(abc, three("abd")), all, nil},
		{oneIn(three("abd"), abc), all, list(1, 3, 9)},
		{allIn(abc, everything()), all, list(1, 3, 9)},
		{allIn(everything(), abc), all, list(1, 3, 9)},
		{allIn(nothing(), abc), all, nil},
		{oneIn(abc, everything()), all, all},
		{oneIn(everything(), abc), all, all},
		{oneIn(nothing(), abc), all, list(1, 3, 9)},
		{oneIn(allIn(abc, bcd), xyz), all, list(0, 3, 9)},
		{allIn(oneIn(abc, bcd), xyz), all, list(9)},
		{allIn(oneIn(abc, xyz), oneIn(bcd, xyz)), all, list(0, 3, 9)},
		{oneIn(abc, abc, abc), all, list(1, 3, 9)},
		{nested(7, abc), all, list(1, 3, 9)},
		{wide(3, api.MaxItems-1, abc), all, list(1, 3, 9)}, // more than lists that post would put together at once
		{wide(4, api.MaxItems-1, abc), all, list(1, 3, 9)},
		{wide(3, api.MaxItems-1, everything()), all, all},
		{wide(4, api.MaxItems-1, everything()), all, all},
		{wide(4, api.MaxItems-1, nothing()), all, nil},
		{abc, list(3), list(3)}, // numbers of the index that are not in all
		{abc, list(0, 4), nil},
		{allIn(abc), list(3, 4), list(3)},
		{oneIn(abc, bcd), list(4, 5, 9), list(4, 9)},
		{oneIn(abc, everything()), list(7, 8), list(7, 8)},
		{everything(), list(7, 8), list(7, 8)}, // numbers that the index does not have
		{allIn(), list(7, 8), list(7, 8)},
		{abc, list(7, 8), nil},
		{everything(), nil, nil}, {allIn(), nil, nil}, {abc, nil, nil}, {oneIn(abc, everything()), nil, nil}, {nothing(), nil, nil}, // an empty all
		{everything(), list(), nil}, {abc, list(), nil},
	} {
		for range 2 {
			mustEval(t, y.q, x, y.all, y.want)
		}
	}
	empty := post.New() // without keys
	mustEval(t, everything(), empty, all, all)
	mustEval(t, abc, empty, all, nil)
	mustEval(t, oneIn(abc, everything()), empty, all, all)
}

func TestDrawnEvals(t *testing.T) { // 14.2, against the words, number by number
	r := rand.New(rand.NewSource(146))
	found := 0
	for range 6000 {
		x := post.New()
		for range r.Intn(60) {
			g := ""
			for len(g) != 3 {
				g = drawnText(r, 3)
			}
			x.Put(g, uint64(r.Intn(20)))
		}
		var all, want []uint64
		for n := range uint64(20) {
			if r.Intn(4) > 0 {
				all = append(all, n)
			}
		}
		q := drawnQuery(r, 1+r.Intn(5))
		for _, n := range all {
			if fitsBy(q, func(g string) bool { return slices.Contains(x.List(g), n) }) {
				want = append(want, n)
			}
		}
		mustEval(t, q, x, all, want)
		if len(want) > 0 && len(want) < len(all) {
			found++
		}
	}
	if found < 600 {
		t.Errorf("only %d with some numbers", found)
	}
}

func TestEvalFindsWhatFits(t *testing.T) { // 14.4
	r := rand.New(rand.NewSource(147))
	found := 0
	for range 3000 {
		var l []string
		var all, want []uint64
		step := 1 + uint64(r.Intn(1<<40))
		for n := range r.Intn(30) {
			l = append(l, drawnText(r, 10))
			all = append(all, uint64(n)*step)
		}
		q := drawnQuery(r, 1+r.Intn(5))
		for n, s := range l {
			if ok, e := Fits(q, s); ok && e == api.OK {
				want = append(want, all[n])
			}
		}
		mustEval(t, q, indexOf(l, step), all, want)
		if len(want) > 0 && len(want) < len(all) {
			found++
		}
	}
	if found < 500 {
		t.Errorf("only %d with some numbers", found)
	}
}

func TestWrongEvals(t *testing.T) { // 14.2, P1: ErrArg of the query, then of all, then ErrNil
	right, wrong := [][]uint64{nil, {}, {0}, {1, 3, 9}, {0, highest}}, [][]uint64{{1, 1}, {2, 1}, {0, 1, 3, 3}, {highest, 0}, {1, 2, 4, 3, 5}}
	voids := []*post.Index{nil, {}, new(post.Index)}
	refused := func(what string, q Query, x *post.Index, all []uint64, want api.Errno) {
		t.Helper()
		for range 2 {
			if l, e := Eval(q, x, all); len(l) != 0 || e != want {
				t.Errorf("%s: %v, %v, want %v", what, l, e, want)
			}
		}
	}
	x := sample()
	for k, q := range wrongQueries() {
		what := fmt.Sprintf("wrong query %d", k)
		for _, all := range [][]uint64{nil, {1, 3, 9}, {2, 1}} {
			refused(what, q, x, all, api.ErrArg)
			for _, void := range voids { // ErrArg is the one that is named first
				refused(what+", no index", q, void, all, api.ErrArg)
			}
		}
	}
	for _, q := range rightQueries() {
		for _, all := range wrong {
			refused("a wrong list of "+short(q), q, x, all, api.ErrArg)
			for _, void := range voids {
				refused("a wrong list and no index of "+short(q), q, void, all, api.ErrArg)
			}
		}
		for _, all := range right {
			for _, void := range voids {
				refused("no index of "+short(q), q, void, all, api.ErrNil)
			}
		}
	}
	if x.Size() != sample().Size() || !slices.Equal(x.Keys(), sample().Keys()) {
		t.Error("the index has changed")
	}
}

func TestManyNumbers(t *testing.T) { // 14.2: a list may have any number of members
	x := post.New()
	var all, twos, threes, either []uint64
	for n := range uint64(100000) {
		all = append(all, n)
		if n%2 == 0 {
			x.Put("two", n)
			twos = append(twos, n)
		}
		if n%3 == 0 {
			x.Put("thr", n)
			threes = append(threes, n)
		}
		if n%2 == 0 || n%3 == 0 {
			either = append(either, n)
		}
	}
	mustEval(t, three("two"), x, all, twos)
	mustEval(t, oneIn(three("two"), three("thr")), x, all, either)
	mustEval(t, allIn(three("two"), oneIn(three("thr"), everything())), x, all, twos)
	mustEval(t, three("thr"), x, either, threes)
	mustEval(t, wide(4, api.MaxItems-1, everything()), x, all, all) // no more than all at a time
}

func TestNothingIsShared(t *testing.T) { // rule 4, P2: what is handed in stays as it is, and what is handed out is the caller's own
	r := rand.New(rand.NewSource(148))
	for range 3000 {
		q := drawnQuery(r, 1+r.Intn(5))
		kept := cloned(q)
		texts := []string{drawnText(r, 9), drawnText(r, 9), drawnText(r, 9), drawnText(r, 9)}
		x := indexOf(texts, 1)
		whole := list(0, 1, 2, 3, 70, 71, 72)
		all := whole[:4]
		first, e := Eval(q, x, all)
		was := slices.Clone(first)
		for k := range first[:cap(first)] { // also the room behind it
			first[:cap(first)][k] = 1234567
		}
		again, f := Eval(q, x, all)
		if e != api.OK || f != api.OK || !slices.Equal(was, again) {
			t.Fatalf("Eval(%s): %v, then %v", textBy(q), was, again)
		}
		Fits(q, texts[0])
		Text(q)
		Check(q)
		if !sameQuery(q, kept) || !slices.Equal(whole, list(0, 1, 2, 3, 70, 71, 72)) {
			t.Fatalf("handed in: %s; now: %v, %v", textBy(kept), q, whole)
		}
		for n := range whole {
			whole[n] = 5
		}
		y := indexOf(texts, 1)
		if !slices.Equal(x.Keys(), y.Keys()) || x.Size() != y.Size() {
			t.Fatal("the index has changed")
		}
		for _, g := range y.Keys() {
			if !slices.Equal(x.List(g), y.List(g)) {
				t.Fatal("the index has changed")
			}
		}
		x.Put("aaa", 9)
		if spoil(q); !slices.Equal(was, again) {
			t.Fatalf("what was handed out hangs on what was handed in: %v, %v", was, again)
		}
	}
}
