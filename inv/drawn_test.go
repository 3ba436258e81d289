package inv

import (
	"fmt"
	"maps"
	"math/rand"
	"slices"
	"strings"
	"testing"

	"tidepole/api"
	"tidepole/gram"
)

// drawnIndex is an index to which series were added, and from which some were dropped, and its words.
func drawnIndex(t *testing.T, r *rand.Rand, steps int) (*Index, words) {
	t.Helper()
	x, w := New(), words{}
	adds := 1 + r.Intn(3)
	for range steps {
		if r.Intn(4) < adds {
			mustAdd(t, x, w, drawnID(r), drawnSet(r))
		} else {
			mustDrop(t, x, w, drawnID(r))
		}
	}
	return x, w
}

func TestDrawn(t *testing.T) { // 16.1, 16.2, 16.3: against the words
	r := rand.New(rand.NewSource(161))
	for range 40 {
		x, w := drawnIndex(t, r, r.Intn(100))
		for range 6 {
			mustAdd(t, x, w, drawnID(r), drawnSet(r))
			mustDrop(t, x, w, drawnID(r))
			mustHave(t, x, w)
			mustFit(t, x, w, drawnQuery(r, 3))
		}
		mustRefuseQueries(t, x, api.ErrArg)
		mustHave(t, x, w)
	}
}

func TestFittingByHand(t *testing.T) { // 16.3
	x := New()
	for k, s := range []string{"xyz", "y", "xyzxyz", "zz", "zzz", "yzxy", "xy", "xyzz"} {
		x.Add(uint64(k), labels("a", s, "b", "z"))
	}
	x.Add(50, labels("a", "xyz", "c", "abc")) // two series of one value
	x.Add(51, labels("b", "zxyz"))            // another name's
	is := func(s string) gram.Query { return gram.Query{Op: 2, Text: s} }
	both := func(l ...gram.Query) gram.Query { return gram.Query{Op: 3, L: l} }
	one := func(l ...gram.Query) gram.Query { return gram.Query{Op: 4, L: l} }
	for _, s := range []struct {
		name string
		q    gram.Query
		want string
	}{
		{"a", gram.Query{}, "xy xyz xyzxyz xyzz y yzxy zz zzz"}, // fewer than three bytes, too
		{"a", gram.Query{Op: 1}, ""},
		{"a", is("xyz"), "xyz xyzxyz xyzz"},
		{"a", is("zxy"), "xyzxyz yzxy"},
		{"a", is("zzz"), "zzz"},
		{"a", is("abc"), ""},
		{"a", is("zzx"), ""},
		{"a", both(), "xy xyz xyzxyz xyzz y yzxy zz zzz"},
		{"a", one(), ""},
		{"a", both(is("xyz"), is("zxy")), "xyzxyz"},
		{"a", both(is("xyz"), is("zzz")), ""},
		{"a", one(is("zzz"), is("zxy")), "xyzxyz yzxy zzz"},
		{"a", one(is("yzz"), is("abc"), gram.Query{Op: 1}), "xyzz"},
		{"a", one(is("yzz"), gram.Query{}), "xy xyz xyzxyz xyzz y yzxy zz zzz"},
		{"a", both(is("yzx"), gram.Query{}), "xyzxyz yzxy"},
		{"a", both(one(is("xyz"), is("zzz")), one(is("yzz"), is("zzz"))), "xyzz zzz"},
		{"b", is("xyz"), "zxyz"},
		{"b", gram.Query{}, "z zxyz"},
		{"b", is("yzx"), ""},
		{"c", is("abc"), "abc"},
		{"c", is("xyz"), ""},
		{"q", gram.Query{}, ""}, // no series has the name
		{"q", is("xyz"), ""},
		{"", gram.Query{}, ""},
	} {
		got, e := x.Fitting(s.name, s.q)
		if e != api.OK || strings.Join(got, " ") != s.want {
			t.Errorf("Fitting(%s, %s): %q, %v, want %q", s.name, gram.Text(s.q), got, e, s.want)
		}
	}
}

func TestValuesThatFitGo(t *testing.T) { // 16.3, 16.5: a value fits as long as a series has it
	x, w := New(), words{}
	fit := func(want string) {
		t.Helper()
		for _, q := range []gram.Query{{Op: 2, Text: "xyz"}, {Op: 3, L: []gram.Query{{}}}} {
			if got, _ := x.Fitting("a", q); strings.Join(got, " ") != want {
				t.Fatalf("Fitting(a, %s): %q, want %q", gram.Text(q), got, want)
			}
		}
		mustHave(t, x, w)
	}
	fit("")
	mustAdd(t, x, w, 1, labels("a", "xyz"))
	fit("xyz")
	mustAdd(t, x, w, 2, labels("a", "xyz", "b", "z"))
	fit("xyz")
	mustDrop(t, x, w, 1)
	fit("xyz")
	mustAdd(t, x, w, 3, labels("a", "wxyz"))
	fit("wxyz xyz")
	mustDrop(t, x, w, 2)
	fit("wxyz")
	mustAdd(t, x, w, 2, labels("a", "xyz", "b", "z"))
	fit("wxyz xyz")
	mustDrop(t, x, w, 3)
	mustDrop(t, x, w, 2)
	fit("")
	mustAdd(t, x, w, 9, labels("a", "vxyz"))
	fit("vxyz")
}

func TestGrams(t *testing.T) { // 16.6: what fits is what a look at each value finds
	r := rand.New(rand.NewSource(162))
	for range 15 {
		x, w := drawnIndex(t, r, 150)
		for _, q := range someQueries() {
			mustFit(t, x, w, q)
		}
		for range 60 {
			q := drawnQuery(r, 4)
			mustFit(t, x, w, q)
			for _, name := range x.Names() { // by gram's own look
				want := slices.DeleteFunc(x.Values(name), func(s string) bool { ok, _ := gram.Fits(q, s); return !ok })
				if got, e := x.Fitting(name, q); e != api.OK || !slices.Equal(got, want) {
					t.Fatalf("Fitting(%q, %s): %q, %v, want %q", name, gram.Text(q), got, e, want)
				}
			}
		}
	}
}

func TestManyGrams(t *testing.T) { // 16.6: of many values, all but a few of which go
	r := rand.New(rand.NewSource(163))
	x, w := New(), words{}
	for n := range uint64(300) {
		var s strings.Builder
		for range 1 + r.Intn(12) {
			s.WriteByte("xyz"[r.Intn(3)])
		}
		mustAdd(t, x, w, n, labels("a", s.String(), "b", fmt.Sprint(n)))
	}
	for _, id := range r.Perm(300)[:290] {
		mustDrop(t, x, w, uint64(id))
		mustFit(t, x, w, drawnQuery(r, 2))
		mustEqual(t, "Values(a)", x.Values("a"), w.values("a"))
	}
	mustHave(t, x, w)
}

func TestEachNumberOnce(t *testing.T) { // 16.4: of the lists of all values, and of the empty one
	r := rand.New(rand.NewSource(164))
	for range 60 {
		x, _ := drawnIndex(t, r, r.Intn(150))
		for _, name := range append(someNames(), x.Names()...) {
			all := x.List(name, "")
			if n := x.Len() - len(all); n != x.Card(name) {
				t.Fatalf("Card(%q): %d, and %d have none", name, x.Card(name), len(all))
			}
			for _, value := range x.Values(name) {
				l := x.List(name, value)
				if len(l) == 0 || value == "" || !slices.IsSorted(l) {
					t.Fatalf("List(%q, %q): %d", name, value, l)
				}
				all = append(all, l...)
			}
			slices.Sort(all)
			mustEqual(t, fmt.Sprintf("the lists of %q", name), all, x.All())
		}
	}
}

func TestUndone(t *testing.T) { // 16.5: series that are added and dropped again, in any order
	r := rand.New(rand.NewSource(165))
	for range 40 {
		x, w := drawnIndex(t, r, r.Intn(60))
		was := maps.Clone(w)
		var new []uint64
		for range r.Intn(30) {
			id := drawnID(r)
			if e := x.Add(id, drawnSet(r)); e == api.OK {
				new = append(new, id)
			}
		}
		r.Shuffle(len(new), func(i, k int) { new[i], new[k] = new[k], new[i] })
		for _, id := range new {
			if e := x.Drop(id); e != api.OK {
				t.Fatal(e)
			}
		}
		mustHave(t, x, was)
		for _, id := range x.All() { // dropped, and added again
			mustDrop(t, x, w, id)
		}
		mustHave(t, x, words{})
		for _, id := range was.all() {
			mustAdd(t, x, w, id, was[id])
		}
		mustHave(t, x, was)
		mustFit(t, x, was, drawnQuery(r, 3))
	}
}

func TestOrders(t *testing.T) { // 16.5: the same series, in other orders
	r := rand.New(rand.NewSource(166))
	for range 10 {
		_, w := drawnIndex(t, r, 120)
		for range 4 {
			ids, x := w.all(), New()
			r.Shuffle(len(ids), func(i, k int) { ids[i], ids[k] = ids[k], ids[i] })
			for _, id := range ids {
				if e := x.Add(id, w[id]); e != api.OK {
					t.Fatal(e)
				}
			}
			mustHave(t, x, w)
			mustFit(t, x, w, drawnQuery(r, 3))
		}
	}
}

func TestCopies(t *testing.T) { // 16.1: a copy that is changed leaves the index as it was, and the other way round
	r := rand.New(rand.NewSource(167))
	for range 30 {
		x, w := drawnIndex(t, r, r.Intn(80))
		y, v := x.Copy(), maps.Clone(w)
		z, u := y.Copy(), maps.Clone(w)
		mustHave(t, y, v)
		for range 40 {
			mustAdd(t, y, v, drawnID(r), drawnSet(r))
			mustDrop(t, y, v, drawnID(r))
		}
		mustHave(t, x, w)
		mustFit(t, x, w, drawnQuery(r, 3))
		for range 40 {
			mustDrop(t, x, w, drawnID(r))
			mustAdd(t, x, w, drawnID(r), drawnSet(r))
		}
		mustHave(t, y, v)
		mustHave(t, z, u)
		for _, q := range someQueries() {
			mustFit(t, y, v, q)
			mustFit(t, z, u, q)
		}
	}
}

func TestRefused(t *testing.T) { // P2: what is refused changes nothing
	r := rand.New(rand.NewSource(168))
	for range 20 {
		x, w := drawnIndex(t, r, 60)
		for _, id := range append(w.all(), 99, highest-99) {
			for _, l := range append(wrongSets(), slices.Collect(maps.Values(w))...) {
				if e, want := x.Add(id, l), maps.Clone(w).add(id, l); e != want || e == api.OK {
					t.Fatalf("Add(%d, %q): %v, want %v", id, l, e, want)
				}
			}
		}
		for _, id := range []uint64{99, highest - 99} {
			mustDrop(t, x, w, id)
		}
		mustRefuseQueries(t, x, api.ErrArg)
		mustHave(t, x, w)
		mustFit(t, x, w, drawnQuery(r, 3))
	}
}

func TestHandedIn(t *testing.T) { // rule 4: what is handed in is not changed, nor is an index, when it is changed later
	r := rand.New(rand.NewSource(169))
	x, w := New(), words{}
	var kept []api.Labels
	for id := range uint64(60) {
		l := append(drawnSet(r), labels("spare", "one", "room", "two")...)
		in := l[:len(l)-2] // with room behind it
		was := slices.Clone(l)
		mustAdd(t, x, w, id, in)
		x.Find(in)
		if !slices.Equal(l, was) {
			t.Fatalf("Add, Find: %q was %q", l, was)
		}
		kept = append(kept, l)
	}
	for _, l := range kept {
		spoil(l)
	}
	mustHave(t, x, w)
	q := gram.Query{Op: 3, L: []gram.Query{{Op: 2, Text: "xyz"}, {Op: 4, L: []gram.Query{{Op: 2, Text: "yzx"}, {}}}, {Op: 1}}}
	told := gram.Text(q)
	q.L = q.L[:2]
	mustFit(t, x, w, q)
	if s := gram.Text(gram.Query{Op: 3, L: q.L[:3]}); s != told {
		t.Errorf("Fitting: %s was %s", s, told)
	}
	q.L[0] = gram.Query{Op: 1}
	mustFit(t, x, w, q)
}

func TestHandedOut(t *testing.T) { // rule 4: what is handed out stays as it is, when the index is changed
	x, w := New(), words{}
	for id, s := range []string{"xyz", "xyzx", "y", "zzz"} {
		mustAdd(t, x, w, uint64(id), labels("a", s, "b", "z"))
	}
	mustAdd(t, x, w, 9, labels("c", "z"))
	l, _ := x.Labels(1)
	all, names, values, list, without := x.All(), x.Names(), x.Values("a"), x.List("b", "z"), x.List("a", "")
	fit, _ := x.Fitting("a", gram.Query{Op: 2, Text: "xyz"})
	mustDrop(t, x, w, 1)
	mustDrop(t, x, w, 9)
	mustAdd(t, x, w, 5, labels("_", "z"))
	mustAdd(t, x, w, 1, labels("a", "a", "b", "z"))
	mustEqual(t, "Labels", l, labels("a", "xyzx", "b", "z"))
	mustEqual(t, "All", all, []uint64{0, 1, 2, 3, 9})
	mustEqual(t, "Names", names, []string{"a", "b", "c"})
	mustEqual(t, "Values", values, []string{"xyz", "xyzx", "y", "zzz"})
	mustEqual(t, "List", list, []uint64{0, 1, 2, 3})
	mustEqual(t, "List of the empty value", without, []uint64{9})
	mustEqual(t, "Fitting", fit, []string{"xyz", "xyzx"})
	mustHave(t, x, w)
	for _, q := range someQueries() {
		mustFit(t, x, w, q)
	}
}

func TestVoid(t *testing.T) { // 16.1, 16.2, 16.3, P1, P2, rule 2: an index that no call made, with each of its calls
	for _, x := range []*Index{nil, {}, new(Index)} {
		for range 2 {
			for _, l := range append(wrongSets(), labels("a", "x"), labels("a", "xyz", "b", "z")) {
				for _, id := range []uint64{0, 1, highest} {
					if e := x.Add(id, l); e != api.ErrNil {
						t.Fatalf("Add: %v", e)
					}
					if e := x.Drop(id); e != api.ErrNil {
						t.Fatalf("Drop: %v", e)
					}
				}
			}
			mustRefuseQueries(t, x, api.ErrNil) // ahead of all other errors
			for _, q := range someQueries() {
				if l, e := x.Fitting("a", q); len(l) != 0 || e != api.ErrNil {
					t.Fatalf("Fitting: %q, %v", l, e)
				}
			}
			mustHave(t, x, words{})
			if y := x.Copy(); y != nil { // there is no other one, not even one without series
				t.Fatalf("Copy: an index of %d series", y.Len())
			}
		}
	}
}

func TestGreatestTexts(t *testing.T) { // P1: texts that are far too long
	x, w := New(), words{}
	mustAdd(t, x, w, 1, labels("a", "xyz"))
	long := strings.Repeat("xyz", 10_000_000)
	if n, ok := x.Find(labels(long, long)); n != 0 || ok {
		t.Error("Find")
	}
	if e := x.Add(2, labels("a", long)); e != api.ErrLabel {
		t.Error(e)
	}
	mustEqual(t, "Values", x.Values(long), nil)
	mustEqual(t, "List", x.List("a", long), nil)
	mustEqual(t, "List", x.List(long, long), nil)
	mustEqual(t, "List", x.List(long, ""), []uint64{1})
	if n := x.Card(long); n != 0 {
		t.Error(n)
	}
	if l, e := x.Fitting(long, gram.Query{}); len(l) != 0 || e != api.OK {
		t.Error(l, e)
	}
	if l, e := x.Fitting("a", gram.Query{Op: 2, Text: long}); len(l) != 0 || e != api.ErrArg {
		t.Error(l, e)
	}
	mustHave(t, x, w)
}

func TestLittleIsKept(t *testing.T) { // no more than is there, and as much again
	x := New()
	for n := range uint64(50) {
		x.Add(n, labels("a", fmt.Sprint("stays", n)))
	}
	for n := range uint64(5000) {
		x.Add(1000+n, labels("a", fmt.Sprint("goes", n), "b", "x"))
		x.Drop(1000 + n)
		if n := len(x.texts["a"].values); n > 102 {
			t.Fatalf("%d values are kept", n)
		}
		if n := x.texts["a"].grams.Size(); n > 102*8 {
			t.Fatalf("%d numbers are kept by grams", n)
		}
	}
	for n := range uint64(50) {
		x.Drop(n)
	}
	if n := len(x.sets) + len(x.numbers) + len(x.lists) + len(x.texts); n != 0 {
		t.Errorf("%d are kept", n)
	}
}
