package inv

import (
	"fmt"
	"maps"
	"math"
	"math/rand"
	"slices"
	"strings"
	"testing"

	"tidepole/api"
	"tidepole/gram"
)

const highest = math.MaxUint64

// labels is a list of labels: name, value, name, value ..
func labels(l ...string) api.Labels {
	var out api.Labels
	for k := 0; k < len(l); k += 2 {
		out = append(out, api.Label{Name: l[k], Value: l[k+1]})
	}
	return out
}

// words is an index as the chapter's words tell it: numbers, and label sets.
type words map[uint64]api.Labels

// mayBe tells whether l is a label set, by the words of chapter 4.
func mayBe(l api.Labels) bool {
	for k, x := range l {
		if len(x.Name) > 64 || strings.Trim(x.Name, "abcdefghijklmnopqrstuvwxyzABCDEFGHIJKLMNOPQRSTUVWXYZ0123456789_") != "" || x.Name == "" || strings.Contains("0123456789", x.Name[:1]) {
			return false
		}
		if x.Value == "" || len(x.Value) > 256 || k > 0 && l[k-1].Name >= x.Name {
			return false
		}
	}
	return len(l) > 0 && len(l) <= 16
}

// valueOf is the value that the name has in l, empty, if it has none.
func valueOf(l api.Labels, name string) string {
	for _, x := range l {
		if x.Name == name {
			return x.Value
		}
	}
	return ""
}

func (w words) add(id uint64, l api.Labels) api.Errno {
	if !mayBe(l) {
		return api.ErrLabel
	}
	if _, isIn := w[id]; isIn {
		return api.ErrSame
	}
	if _, isIn := w.find(l); isIn {
		return api.ErrSame
	}
	if len(w) >= 65536 {
		return api.ErrFull
	}
	w[id] = slices.Clone(l)
	return api.OK
}

func (w words) drop(id uint64) api.Errno {
	if _, isIn := w[id]; !isIn {
		return api.ErrNone
	}
	delete(w, id)
	return api.OK
}

func (w words) find(l api.Labels) (uint64, bool) {
	for id, x := range w {
		if slices.Equal(x, l) {
			return id, true
		}
	}
	return 0, false
}

func (w words) all() []uint64 { return slices.Sorted(maps.Keys(w)) }

// texts is the names of w, or, of a name, its values, each once, rising.
func (w words) texts(tell func(api.Label) (string, bool)) []string {
	out := map[string]int{}
	for _, l := range w {
		for _, x := range l {
			if s, ok := tell(x); ok {
				out[s]++
			}
		}
	}
	return slices.Sorted(maps.Keys(out))
}

func (w words) names() []string {
	return w.texts(func(x api.Label) (string, bool) { return x.Name, true })
}

func (w words) values(name string) []string {
	return w.texts(func(x api.Label) (string, bool) { return x.Value, x.Name == name })
}

func (w words) list(name, value string) []uint64 {
	var out []uint64
	for _, id := range w.all() {
		if valueOf(w[id], name) == value {
			out = append(out, id)
		}
	}
	return out
}

func (w words) card(name string) int { return len(w) - len(w.list(name, "")) }

// fitting is what a look at each value of the name finds.
func (w words) fitting(name string, q gram.Query) []string {
	return slices.DeleteFunc(w.values(name), func(s string) bool { return !fits(q, s) })
}

// fits tells whether a text fits q, by the words of chapter 14.
func fits(q gram.Query, s string) bool {
	some, all := false, true
	for _, x := range q.L {
		some, all = some || fits(x, s), all && fits(x, s)
	}
	return [5]bool{true, false, strings.Contains(s, q.Text), all, some}[q.Op]
}

// someNames are those that indexes are asked for: some that a label may have, some that none may.
func someNames() []string {
	return []string{"a", "b", "c", "ab", "A", "_", "z9", strings.Repeat("n", 64), strings.Repeat("n", 65), "", "9", "a b", "a=", "\xff", "other"}
}

// someValues are values with grams in common and with none, at the ends of what may be, and some that may not be.
func someValues() []string {
	return []string{"x", "y", "xy", "xyz", "yzx", "xyzx", "xyzxyz", "zzz", "zzzz", "zz", "XYZ", "\x00", "\x00\x00\x00", "\xff\xff\xff", "xy\xff", "\xffxyz",
		"ä€", "x,b=y", "1", "a=x", "xyz\x00", strings.Repeat("xyz", 85) + "v", strings.Repeat("v", 256), strings.Repeat("v", 257), ""}
}

// someQueries are queries that may be: that ask for nothing, for one gram, for several, and that nothing fits.
func someQueries() []gram.Query {
	q := []gram.Query{{}, {Op: 1}, {Op: 3}, {Op: 4}, {L: []gram.Query{}}, {Op: 3, L: []gram.Query{{}}}, {Op: 4, L: []gram.Query{{Op: 1}, {}}}}
	for _, g := range []string{"xyz", "yzx", "zzz", "zxy", "vvv", "\x00\x00\x00", "\xff\xff\xff", "y\xff\xff", "xy\xff", "abc"} {
		q = append(q, gram.Query{Op: 2, Text: g})
	}
	one := q[7:]
	q = append(q, gram.Query{Op: 3, L: one[:2]}, gram.Query{Op: 4, L: one}, gram.Query{Op: 3, L: one}, gram.Query{Op: 4, L: one[1:3]},
		gram.Query{Op: 3, L: []gram.Query{{Op: 4, L: one[:3]}, {Op: 4, L: one[2:5]}}}, gram.Query{Op: 4, L: []gram.Query{{Op: 3, L: one[:2]}, {Op: 3, L: one[2:3]}}},
		gram.Query{Op: 3, L: []gram.Query{one[0], {Op: 1}}}, gram.Query{Op: 4, L: []gram.Query{one[0], {Op: 1}}})
	deep := one[0]
	for range 7 {
		deep = gram.Query{Op: 3, L: []gram.Query{deep}}
	}
	many := gram.Query{Op: 4, L: make([]gram.Query, api.MaxItems-1)} // of the Op 0: all
	return append(q, deep, many)
}

// wrongQueries are queries that may not be.
func wrongQueries() []gram.Query {
	xyz := gram.Query{Op: 2, Text: "xyz"}
	deep := xyz
	for range 8 {
		deep = gram.Query{Op: 3, L: []gram.Query{deep}}
	}
	self := gram.Query{Op: 4, L: make([]gram.Query, 1)} // it holds itself
	self.L[0] = self
	return []gram.Query{{Op: -1}, {Op: 5}, {Op: 9}, {Op: math.MaxInt}, {Op: math.MinInt}, {Op: 2}, {Op: 2, Text: "xy"}, {Op: 2, Text: "xyzx"}, {Text: "xyz"}, {Op: 1, Text: "xyz"},
		{Op: 3, Text: "xyz", L: []gram.Query{xyz}}, {Op: 4, Text: "x"}, {L: []gram.Query{xyz}}, {Op: 1, L: []gram.Query{{}}}, {Op: 2, Text: "xyz", L: []gram.Query{{}}},
		{Op: 3, L: []gram.Query{xyz, {Op: 7}}}, {Op: 4, L: []gram.Query{{}, {Op: 2}}}, {Op: 4, L: []gram.Query{{Op: 1}, {Op: 3, L: []gram.Query{{Text: "x"}}}}},
		deep, self, {Op: 4, L: make([]gram.Query, api.MaxItems)}}
}

// drawnQuery is a query of grams that some of the values have.
func drawnQuery(r *rand.Rand, deep int) gram.Query {
	op := r.Intn(10)
	if op == 0 || op == 1 {
		return gram.Query{Op: op}
	}
	if op < 6 || deep == 0 {
		s := someValues()[r.Intn(23)] + "xyz"
		at := r.Intn(len(s) - 2)
		return gram.Query{Op: 2, Text: s[at : at+3]}
	}
	q := gram.Query{Op: 3 + op%2}
	for range r.Intn(4) {
		q.L = append(q.L, drawnQuery(r, deep-1))
	}
	return q
}

// wrongSets are label sets that may not be.
func wrongSets() []api.Labels {
	many := labels()
	for k := range 17 {
		many = append(many, api.Label{Name: string(rune('a' + k)), Value: "v"})
	}
	return []api.Labels{nil, {}, labels("b", "x", "a", "x"), labels("a", "x", "a", "x"), labels("a", "x", "a", "y"), labels("a", ""), labels("a", "x", "b", ""), labels("a", "", "b", "x"),
		labels("", "x"), labels("", ""), labels("9", "x"), labels("a b", "x"), labels("a-", "x"), labels("ä", "x"), labels("a\x00", "x"), labels("a", "x", "c", "x", "b", "x"),
		labels(strings.Repeat("n", 65), "x"), labels("a", strings.Repeat("v", 257)), many, make(api.Labels, 100000)}
}

// drawnSet is a label set of some names and values; seldom one that may not be.
func drawnSet(r *rand.Rand) api.Labels {
	var out api.Labels
	for _, name := range []string{"A", "_", "a", "ab", "b", "c"} {
		if r.Intn(3) == 0 {
			out = append(out, api.Label{Name: name, Value: someValues()[r.Intn(23)]})
		}
	}
	if r.Intn(40) == 0 {
		return wrongSets()[r.Intn(len(wrongSets()))]
	}
	return out
}

// drawnID is a number of a few, those at the ends among them.
func drawnID(r *rand.Rand) uint64 {
	ids := []uint64{0, 1, 2, 3, 255, 256, 1<<32 - 1, 1 << 32, 1<<63 - 1, 1 << 63, highest - 1, highest}
	return ids[r.Intn(len(ids))] + uint64(r.Intn(5))<<20
}

func mustAdd(t *testing.T, x *Index, w words, id uint64, l api.Labels) {
	t.Helper()
	if e, want := x.Add(id, l), w.add(id, l); e != want {
		t.Fatalf("Add(%d, %q): %v, want %v", id, l, e, want)
	}
}

func mustDrop(t *testing.T, x *Index, w words, id uint64) {
	t.Helper()
	if e, want := x.Drop(id), w.drop(id); e != want {
		t.Fatalf("Drop(%d): %v, want %v", id, e, want)
	}
}

// mustEqual holds two lists against each other, and changes the first one behind that.
func mustEqual[E comparable](t *testing.T, what string, got, want []E) {
	t.Helper()
	if !slices.Equal(got, want) {
		t.Fatalf("%s: %v, want %v", what, got, want)
	}
	spoil(got)
}

// spoil takes all members of a list away, and what is in the room behind it.
func spoil[E any](l []E) { clear(l[:cap(l)]) }

// mustHave holds all that x tells, twice, against the words, and changes what it hands out.
func mustHave(t *testing.T, x *Index, w words) {
	t.Helper()
	for range 2 {
		if n := x.Len(); n != len(w) {
			t.Fatalf("Len(): %d, want %d", n, len(w))
		}
		mustEqual(t, "All()", x.All(), w.all())
		mustEqual(t, "Names()", x.Names(), w.names())
		mustHaveSeries(t, x, w)
		for _, name := range someNames() {
			mustHaveName(t, x, w, name)
		}
	}
}

func mustHaveSeries(t *testing.T, x *Index, w words) {
	t.Helper()
	for id, l := range w {
		got, ok := x.Labels(id)
		if !ok || !slices.Equal(got, l) {
			t.Fatalf("Labels(%d): %q, %v, want %q", id, got, ok, l)
		}
		spoil(got)
		if n, ok := x.Find(l); n != id || !ok {
			t.Fatalf("Find(%q): %d, %v, want %d", l, n, ok, id)
		}
	}
	for _, id := range []uint64{0, 1, 4, 77, 1<<32 + 1, highest, highest - 7} {
		want, wantOK := w[id]
		if got, ok := x.Labels(id); ok != wantOK || !slices.Equal(got, want) {
			t.Fatalf("Labels(%d): %q, %v, want %q, %v", id, got, ok, want, wantOK)
		}
	}
	for _, l := range append(wrongSets(), labels("a", "x"), labels("a", "x", "b", "y"), labels("q", "xyz")) {
		want, wantOK := w.find(l)
		if n, ok := x.Find(l); n != want || ok != wantOK {
			t.Fatalf("Find(%q): %d, %v, want %d, %v", l, n, ok, want, wantOK)
		}
	}
}

func mustHaveName(t *testing.T, x *Index, w words, name string) {
	t.Helper()
	mustEqual(t, fmt.Sprintf("Values(%q)", name), x.Values(name), w.values(name))
	if n, want := x.Card(name), w.card(name); n != want {
		t.Fatalf("Card(%q): %d, want %d", name, n, want)
	}
	for _, value := range append(someValues(), "q", "other") {
		mustEqual(t, fmt.Sprintf("List(%q, %q)", name, value), x.List(name, value), w.list(name, value))
	}
}

// mustFit holds what of each name fits q against a look at each value.
func mustFit(t *testing.T, x *Index, w words, q gram.Query) {
	t.Helper()
	for _, name := range someNames() {
		for range 2 {
			got, e := x.Fitting(name, q)
			if e != api.OK {
				t.Fatalf("Fitting(%q, %s): %v", name, gram.Text(q), e)
			}
			mustEqual(t, fmt.Sprintf("Fitting(%q, %s)", name, gram.Text(q)), got, w.fitting(name, q))
		}
	}
}

// mustRefuseQueries asks x for queries that may not be, of names that are there and that are not.
func mustRefuseQueries(t *testing.T, x *Index, want api.Errno) {
	t.Helper()
	for _, q := range wrongQueries() {
		for _, name := range someNames() {
			if l, e := x.Fitting(name, q); len(l) != 0 || e != want {
				t.Fatalf("Fitting(%q, Op %d): %q, %v, want %v", name, q.Op, l, e, want)
			}
		}
	}
}
