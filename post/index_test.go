package post

import (
	"maps"
	"math/rand"
	"slices"
	"strings"
	"testing"

	"tidepole/api"
)

// words is an index as the chapter's words tell it.
type words map[string]set

func (w words) put(key string, n uint64) {
	if w[key] == nil {
		w[key] = set{}
	}
	w[key][n] = true
}

func (w words) take(key string, n uint64) {
	delete(w[key], n)
	if len(w[key]) == 0 {
		delete(w, key)
	}
}

// someKeys are those that indexes are asked for: the empty text, and bytes at the ends.
func someKeys() []string {
	return []string{"", "a", "aa", "ab", "b", "\x00", "\x00\x00", "\xff", "\xff\xff", "a\x00", "a\xff", "\x7f", "\x80", "ä", "abc", "A", strings.Repeat("k", 1000)}
}

// mustHave holds all that x tells against the words, and changes what it hands out.
func mustHave(t *testing.T, x *Index, w words) {
	t.Helper()
	for range 2 {
		size := 0
		for _, key := range append(someKeys(), "other") {
			l := x.List(key)
			if !slices.Equal(l, w[key].sorted()) {
				t.Fatalf("List(%q): %v, want %v", key, l, w[key].sorted())
			}
			size += len(l)
			spoil(l)
		}
		got, want := x.Keys(), slices.Sorted(maps.Keys(w))
		if !slices.Equal(got, want) {
			t.Fatalf("Keys(): %q, want %q", got, want)
		}
		for k := range got {
			got[k] = "changed"
		}
		if n := x.Size(); n != size {
			t.Fatalf("Size(): %d, want %d", n, size)
		}
		if x.Void() {
			t.Fatal("void")
		}
	}
}

func mustPut(t *testing.T, x *Index, w words, key string, n uint64) {
	t.Helper()
	if e := x.Put(key, n); e != api.OK {
		t.Fatalf("Put(%q, %d): %v", key, n, e)
	}
	w.put(key, n)
}

func mustTake(t *testing.T, x *Index, w words, key string, n uint64) {
	t.Helper()
	if e := x.Take(key, n); e != api.OK {
		t.Fatalf("Take(%q, %d): %v", key, n, e)
	}
	w.take(key, n)
}

func TestIndexByHand(t *testing.T) { // 13.2
	x, w := New(), words{}
	mustHave(t, x, w) // without keys
	steps := []struct {
		take bool
		key  string
		n    uint64
		keys string // what Keys() is then, put together
		list []uint64
		size int
	}{
		{true, "a", 1, "", nil, 0}, // what is not there
		{false, "b", 7, "b", list(7), 1},
		{false, "b", 2, "b", list(2, 7), 2},
		{false, "b", 7, "b", list(2, 7), 2}, // twice
		{false, "b", 2, "b", list(2, 7), 2},
		{false, "b", 4, "b", list(2, 4, 7), 3},
		{false, "a", 4, "a b", list(4), 4},
		{false, "", 0, " a b", list(0), 5}, // the empty text is a key as any other one
		{false, "", highest, " a b", list(0, highest), 6},
		{false, "\xff", highest, " a b \xff", list(highest), 7},
		{false, "\x00", 0, " \x00 a b \xff", list(0), 8},
		{true, "b", 5, " \x00 a b \xff", list(2, 4, 7), 8}, // a number that is not there
		{true, "c", 4, " \x00 a b \xff", nil, 8},           // nor a key
		{true, "b", 4, " \x00 a b \xff", list(2, 7), 7},
		{true, "b", 4, " \x00 a b \xff", list(2, 7), 7}, // no longer there
		{true, "a", 4, " \x00 b \xff", nil, 6},          // the last one takes its key away
		{true, "b", 7, " \x00 b \xff", list(2), 5},
		{true, "b", 2, " \x00 \xff", nil, 4},
		{true, "", 0, " \x00 \xff", list(highest), 3},
		{true, "", highest, "\x00 \xff", nil, 2},
		{true, "\x00", 0, "\xff", nil, 1},
		{false, "b", 9, "b \xff", list(9), 2}, // and it may come again
		{true, "\xff", highest, "b", nil, 1},
		{true, "b", 9, "", nil, 0},
	}
	for _, s := range steps {
		if s.take {
			mustTake(t, x, w, s.key, s.n)
		} else {
			mustPut(t, x, w, s.key, s.n)
		}
		keys := x.Keys()
		if got := strings.Join(keys, " "); got != s.keys || s.size == 0 && len(keys) != 0 {
			t.Fatalf("behind %v: keys %q, want %q", s, got, s.keys)
		}
		if got := x.List(s.key); !slices.Equal(got, s.list) {
			t.Fatalf("behind %v: %v", s, got)
		}
		if got := x.Size(); got != s.size {
			t.Fatalf("behind %v: size %d", s, got)
		}
		mustHave(t, x, w)
	}
}

func TestDrawnIndexes(t *testing.T) { // 13.2, 13.1: against the words, and lists that rise
	r := rand.New(rand.NewSource(138))
	for range 60 {
		x, w := New(), words{}
		some := numbers()[:2+r.Intn(len(numbers())-1)]
		puts := 1 + r.Intn(3)
		for range 250 {
			key, n := someKeys()[r.Intn(1+r.Intn(len(someKeys())))], some[r.Intn(len(some))]
			if r.Intn(4) < puts {
				mustPut(t, x, w, key, n)
			} else {
				mustTake(t, x, w, key, n)
			}
			if r.Intn(4) == 0 {
				mustHave(t, x, w)
			}
			if e := Check(x.List(key)); e != api.OK {
				t.Fatalf("List(%q): %v", key, x.List(key))
			}
		}
		for key, s := range maps.Clone(w) { // all of it is taken
			for _, n := range s.sorted() {
				mustTake(t, x, w, key, n)
			}
		}
		mustHave(t, x, words{})
	}
}

func TestOrderOfPuts(t *testing.T) { // 13.2: rising, falling, and in between
	r := rand.New(rand.NewSource(139))
	var want []uint64
	for n := range uint64(500) {
		want = append(want, n*n)
	}
	rising, falling, drawn := slices.Clone(want), slices.Clone(want), slices.Clone(want)
	slices.Reverse(falling)
	r.Shuffle(len(drawn), func(i, k int) { drawn[i], drawn[k] = drawn[k], drawn[i] })
	for _, order := range [][]uint64{rising, falling, drawn} {
		x := New()
		for _, n := range order {
			x.Put("k", n)
			x.Put(string([]byte{byte(n), byte(n >> 8)}), n)
		}
		if got := x.List("k"); !slices.Equal(got, want) {
			t.Fatalf("%v", got)
		}
		if got := x.Size(); got != 1000 {
			t.Fatalf("size %d", got)
		}
		if !slices.IsSorted(x.Keys()) {
			t.Fatalf("%q", x.Keys())
		}
	}
}

func TestLeftAlone(t *testing.T) { // 13.2, rule 4: indexes have nothing in common, nor do answers of one
	x, y := New(), New()
	w, v := words{}, words{}
	for n := range uint64(20) {
		mustPut(t, x, w, "a", n)
		mustPut(t, y, v, "a", 2*n)
	}
	elder := x.List("a")
	mustTake(t, x, w, "a", 3)
	mustPut(t, x, w, "a", 100)
	mustPut(t, x, w, "b", 1)
	mustTake(t, y, v, "a", 0)
	mustHave(t, x, w)
	mustHave(t, y, v)
	want := New()
	for n := range uint64(20) {
		want.Put("a", n)
	}
	if !slices.Equal(elder, want.List("a")) {
		t.Errorf("what was handed out has changed: %v", elder)
	}
	elder = append(elder, 5)
	spoil(elder)
	mustHave(t, x, w)
	keys := x.Keys()
	mustPut(t, x, w, "aa", 1)
	mustTake(t, x, w, "b", 1)
	if !slices.Equal(keys, []string{"a", "b"}) {
		t.Errorf("what was handed out has changed: %q", keys)
	}
	mustHave(t, New(), words{})
}

func TestVoidIndexes(t *testing.T) { // 13.2, P1, P2, rule 2: an index that no call made, with each of its calls
	for _, x := range []*Index{nil, {}, new(Index)} {
		for range 2 { // a call that is refused changes nothing
			for _, key := range someKeys() {
				for _, n := range []uint64{0, 1, highest} {
					if e := x.Put(key, n); e != api.ErrNil {
						t.Errorf("Put: %v", e)
					}
					if e := x.Take(key, n); e != api.ErrNil {
						t.Errorf("Take: %v", e)
					}
				}
				if l := x.List(key); len(l) != 0 {
					t.Errorf("List: %v", l)
				}
			}
			if l := x.Keys(); len(l) != 0 {
				t.Errorf("Keys: %v", l)
			}
			if n := x.Size(); n != 0 {
				t.Errorf("Size: %d", n)
			}
			if !x.Void() {
				t.Error("not void")
			}
		}
	}
	x := New()
	if x == nil || x.Void() {
		t.Fatal("New is void")
	}
	x.Put("a", 1)
	x.Take("a", 1)
	if x.Void() { // one without keys is not none
		t.Error("an index that is empty again is void")
	}
}

func TestListsOfAnIndex(t *testing.T) { // 13.2 with 13.1: what an index hands out is put together as any list
	x := New()
	for n := range uint64(30) {
		x.Put("two", 2*n)
		x.Put("three", 3*n)
	}
	both, e := And(x.List("two"), x.List("three"))
	mustBe(t, "And", both, e, list(0, 6, 12, 18, 24, 30, 36, 42, 48, 54))
	none, e := And(x.List("two"), x.List("four"))
	mustBe(t, "And with what is not there", none, e, nil)
}
