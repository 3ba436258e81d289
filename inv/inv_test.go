package inv

import (
	"maps"
	"slices"
	"strconv"
	"strings"
	"testing"

	"tidepole/api"
	"tidepole/gram"
)

func TestNoSeries(t *testing.T) { // 16.1, 16.2, 16.3
	x := New()
	mustHave(t, x, words{})
	for _, q := range someQueries() {
		mustFit(t, x, words{}, q)
	}
	mustRefuseQueries(t, x, api.ErrArg)
	for _, id := range []uint64{0, 1, highest} {
		mustDrop(t, x, words{}, id) // ErrNone
	}
	mustHave(t, x.Copy(), words{})
	mustHave(t, x, words{})
	mustCopyNone(t, x)
	mustAdd(t, x, words{}, 5, labels("a", "x"))
	mustDrop(t, x, words{5: labels("a", "x")}, 5)
	mustCopyNone(t, x) // its series went, but New made it
	mustHave(t, x, words{})
}

// mustCopyNone asks that the copy of x, which has no series, is an index to which one may be added, and x not the worse for it.
func mustCopyNone(t *testing.T, x *Index) {
	t.Helper()
	y, w := x.Copy(), words{}
	if y == nil {
		t.Fatal("Copy: no index")
	}
	mustHave(t, y, w)
	mustAdd(t, y, w, 1, labels("a", "x"))
	mustHave(t, y, w)
	mustHave(t, x, words{})
}

func TestByHand(t *testing.T) { // 16.1, 16.2
	x := New()
	for _, s := range []struct {
		drop             bool
		id               uint64
		set              api.Labels
		want             api.Errno
		all              []uint64
		names, values    string // the values are a's
		card             int    // a's
		x, empty, noName []uint64
	}{
		{true, 5, nil, api.ErrNone, nil, "", "", 0, nil, nil, nil},
		{false, 5, labels("a", "x"), api.OK, []uint64{5}, "a", "x", 1, []uint64{5}, nil, []uint64{5}},
		{false, 7, labels("a", "y", "b", "z"), api.OK, []uint64{5, 7}, "a b", "x y", 2, []uint64{5}, nil, []uint64{5}},
		{false, 7, labels("c", "x"), api.ErrSame, []uint64{5, 7}, "a b", "x y", 2, []uint64{5}, nil, []uint64{5}},           // the number
		{false, 9, labels("a", "x"), api.ErrSame, []uint64{5, 7}, "a b", "x y", 2, []uint64{5}, nil, []uint64{5}},           // the set
		{false, 5, labels("a", "x"), api.ErrSame, []uint64{5, 7}, "a b", "x y", 2, []uint64{5}, nil, []uint64{5}},           // both, of one series
		{false, 5, labels("a", "y", "b", "z"), api.ErrSame, []uint64{5, 7}, "a b", "x y", 2, []uint64{5}, nil, []uint64{5}}, // both, of two
		{false, 7, labels("a", ""), api.ErrLabel, []uint64{5, 7}, "a b", "x y", 2, []uint64{5}, nil, []uint64{5}},           // ErrLabel is named first
		{false, 0, labels("b", "x"), api.OK, []uint64{0, 5, 7}, "a b", "x y", 2, []uint64{5}, []uint64{0}, []uint64{5}},
		{false, highest, labels("a", "x", "b", "x"), api.OK, []uint64{0, 5, 7, highest}, "a b", "x y", 3, []uint64{5, highest}, []uint64{0}, []uint64{5}},
		{true, 6, nil, api.ErrNone, []uint64{0, 5, 7, highest}, "a b", "x y", 3, []uint64{5, highest}, []uint64{0}, []uint64{5}},
		{true, 5, nil, api.OK, []uint64{0, 7, highest}, "a b", "x y", 2, []uint64{highest}, []uint64{0}, nil},
		{true, 5, nil, api.ErrNone, []uint64{0, 7, highest}, "a b", "x y", 2, []uint64{highest}, []uint64{0}, nil}, // no longer there
		{true, highest, nil, api.OK, []uint64{0, 7}, "a b", "y", 1, nil, []uint64{0}, nil},                         // the value goes
		{false, 1, labels("a", "x"), api.OK, []uint64{0, 1, 7}, "a b", "x y", 2, []uint64{1}, []uint64{0}, []uint64{1}},
		{true, 7, nil, api.OK, []uint64{0, 1}, "a b", "x", 1, []uint64{1}, []uint64{0}, []uint64{1}},
		{true, 0, nil, api.OK, []uint64{1}, "a", "x", 1, []uint64{1}, nil, []uint64{1}}, // the name goes
		{true, 1, nil, api.OK, nil, "", "", 0, nil, nil, nil},
		{false, 1, labels("b", "x"), api.OK, []uint64{1}, "b", "", 0, nil, []uint64{1}, nil},
	} {
		e := x.Add(s.id, s.set)
		if s.drop {
			e = x.Drop(s.id)
		}
		if e != s.want {
			t.Fatalf("%v: %v", s, e)
		}
		if n := x.Len(); n != len(s.all) {
			t.Fatalf("%v: Len() %d", s, n)
		}
		mustEqual(t, "All", x.All(), s.all)
		if got := strings.Join(x.Names(), " "); got != s.names {
			t.Fatalf("%v: names %q", s, got)
		}
		if got := strings.Join(x.Values("a"), " "); got != s.values {
			t.Fatalf("%v: values %q", s, got)
		}
		if n := x.Card("a"); n != s.card {
			t.Fatalf("%v: Card(a) %d", s, n)
		}
		mustEqual(t, "List(a, x)", x.List("a", "x"), s.x)
		mustEqual(t, "List(a, empty)", x.List("a", ""), s.empty)
		mustEqual(t, "List(b, empty)", x.List("b", ""), s.noName)
		mustEqual(t, "List(q, empty)", x.List("q", ""), s.all)
		mustEqual(t, "List(q, x)", x.List("q", "x"), nil)
	}
}

func TestExample(t *testing.T) { // the chapter's own
	x, w := New(), words{}
	mustAdd(t, x, w, 5, labels("a", "x"))
	mustAdd(t, x, w, 7, labels("a", "y", "b", "z"))
	mustEqual(t, "List(a, x)", x.List("a", "x"), []uint64{5})
	mustEqual(t, "List(b, empty)", x.List("b", ""), []uint64{5})
	mustEqual(t, "Values(a)", x.Values("a"), []string{"x", "y"})
	if n := x.Card("b"); n != 1 {
		t.Errorf("Card(b): %d", n)
	}
	mustHave(t, x, w)
}

func TestEdgesOfSets(t *testing.T) { // 16.1, 16.2: a set of one label, of as many as may be, and of the longest ones
	many := labels()
	for k := range 16 {
		many = append(many, api.Label{Name: strings.Repeat("n", 49) + strings.Repeat(string(rune('a'+k)), 15), Value: strings.Repeat("v", 256)})
	}
	fewer := many[:15]
	x, w := New(), words{}
	for k, l := range []api.Labels{labels("a", "x"), many, fewer, many[1:], labels("_", "\x00"), labels("z9", "\xff"), labels("Z", strings.Repeat("\xff", 256)), labels(strings.Repeat("n", 64), "1")} {
		mustAdd(t, x, w, uint64(k), l)
	}
	mustHave(t, x, w)
	for _, y := range many {
		mustHaveName(t, x, w, y.Name)
		mustHaveName(t, x, w, y.Name[:63])
	}
	if len(w) != 8 || len(x.List(many[3].Name, many[3].Value)) != 3 {
		t.Fatalf("%d series", len(w))
	}
	for id := range maps.Clone(w) {
		mustDrop(t, x, w, id)
		mustHave(t, x, w)
	}
}

func TestLikeSets(t *testing.T) { // 16.1: sets that, told as texts or put one behind the other, are alike
	x, w := New(), words{}
	for k, l := range []api.Labels{
		labels("a", "x", "b", "y"), labels("a", "x,b=y"), labels("a", "x", "b", "y,c=z"), labels("a", "x", "b", "y", "c", "z"), labels("a", "x,b=y,c=z"), labels("a", "x,b=y", "c", "z"),
		labels("a", "b", "b", "a"), labels("a", "a", "b", "b"), labels("a", "ab", "b", "c"), labels("a", "a", "b", "bc"), labels("ab", "c"), labels("a", "bc"), labels("abc", "_"),
		labels("a", "x\x01b\x01y"), labels("a", "x\x00b\x00y"), labels("a", "x"), labels("b", "x"), labels("a", "X"), labels("A", "x"), labels("a", "x "), labels("a", "x", "b", "x"),
	} {
		mustAdd(t, x, w, uint64(k), l)
		if len(w) != k+1 {
			t.Fatalf("%q is there already", l)
		}
		mustAdd(t, x, w, 1000, l) // ErrSame
	}
	mustHave(t, x, w)
	for _, id := range []uint64{1, 3, 5, 7, 9, 11, 13, 15} {
		mustDrop(t, x, w, id)
		mustHave(t, x, w)
	}
}

func TestWrongSets(t *testing.T) { // 16.1, P2: a set that may not be, of a number that is there and that is not
	x, w := New(), words{}
	for range 2 {
		for _, l := range wrongSets() {
			for _, id := range []uint64{0, 5, highest} {
				if e := x.Add(id, l); e != api.ErrLabel {
					t.Fatalf("Add(%d, %q): %v, want ErrLabel", id, l, e)
				}
				if n, ok := x.Find(l); n != 0 || ok {
					t.Fatalf("Find(%q): %d, %v", l, n, ok)
				}
			}
		}
		mustHave(t, x, w)
		x.Add(5, labels("a", "xyz", "b", "z")) // and once more behind this
		w = words{5: labels("a", "xyz", "b", "z")}
	}
}

func TestNumbersAndSetsComeAgain(t *testing.T) { // 16.1, 16.5: a number with another set, a set with another number
	x, w := New(), words{}
	mustAdd(t, x, w, 3, labels("a", "xyz"))
	mustDrop(t, x, w, 3)
	mustAdd(t, x, w, 3, labels("a", "zzz"))
	mustHave(t, x, w)
	mustAdd(t, x, w, 4, labels("a", "xyz"))
	mustDrop(t, x, w, 3)
	mustAdd(t, x, w, 5, labels("a", "zzz"))
	mustHave(t, x, w)
	for _, q := range someQueries() {
		mustFit(t, x, w, q)
	}
	if _, ok := x.Labels(3); ok {
		t.Error("3 is there")
	}
}

func TestFull(t *testing.T) { // 16.1, P2: 65536 series, and one more
	x := New()
	set := func(n int) api.Labels {
		l := labels("all", "one")
		if n%2 == 0 {
			l = append(l, api.Label{Name: "even", Value: "yes" + strconv.Itoa(n%10)})
		}
		return append(l, api.Label{Name: "n", Value: strconv.Itoa(n)})
	}
	for n := range 65536 {
		if e := x.Add(uint64(65536-n), set(n)); e != api.OK {
			t.Fatalf("Add of series %d: %v", n, e)
		}
	}
	mustBeFull := func() {
		t.Helper()
		if x.Len() != 65536 || len(x.All()) != 65536 || x.Card("even") != 32768 || len(x.List("even", "")) != 32768 || x.Card("all") != 65536 || len(x.Values("n")) != 65536 || len(x.List("even", "yes4")) != 6553+1 {
			t.Fatalf("%d series, %d even", x.Len(), x.Card("even"))
		}
		l := x.All()
		for k, id := range l {
			if id != uint64(k+1) {
				t.Fatalf("All(): %d at %d", id, k)
			}
		}
	}
	mustBeFull()
	for _, s := range []struct {
		id   uint64
		l    api.Labels
		want api.Errno
	}{
		{0, set(65536), api.ErrFull}, {highest, labels("q", "q"), api.ErrFull}, {70000, labels("all", "one"), api.ErrFull},
		{0, labels("q", ""), api.ErrLabel}, {0, nil, api.ErrLabel}, {5, nil, api.ErrLabel}, // what is named first
		{5, labels("q", "q"), api.ErrSame}, {0, set(77), api.ErrSame}, {5, set(77), api.ErrSame},
	} {
		if e := x.Add(s.id, s.l); e != s.want {
			t.Errorf("Add(%d, %q): %v, want %v", s.id, s.l, e, s.want)
		}
	}
	mustBeFull()
	y := x.Copy()
	if e := y.Add(0, labels("q", "q")); e != api.ErrFull || y.Len() != 65536 {
		t.Errorf("a copy, and one more: %v, %d", e, y.Len())
	}
	q := gram.Query{Op: 3, L: []gram.Query{{Op: 2, Text: "123"}, {Op: 2, Text: "234"}}}
	var want []string
	for _, s := range x.Values("n") {
		if fits(q, s) {
			want = append(want, s)
		}
	}
	if got, e := x.Fitting("n", q); e != api.OK || !slices.Equal(got, want) || len(want) != 17 {
		t.Errorf("Fitting: %q, %v, want %q", got, e, want)
	}
	if e := x.Drop(1); e != api.OK {
		t.Error(e)
	}
	if e := x.Add(0, labels("q", "q")); e != api.OK || x.Len() != 65536 {
		t.Errorf("in place of one that went: %v", e)
	}
	if e := x.Add(1, labels("q", "r")); e != api.ErrFull {
		t.Errorf("one more behind that: %v", e)
	}
	for n := range uint64(65537) {
		if e := x.Drop(n); (e == api.OK) != (n != 1) {
			t.Fatalf("Drop(%d): %v", n, e)
		}
	}
	mustHave(t, x, words{})
}
