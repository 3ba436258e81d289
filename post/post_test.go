package post

import (
	"fmt"
	"math/rand"
	"slices"
	"testing"

	"tidepole/api"
)

func TestCheck(t *testing.T) { // 13.1
	for _, l := range right() {
		if e := Check(l); e != api.OK {
			t.Errorf("Check(%v): %v", l, e)
		}
	}
	for _, l := range wrong() {
		if e := Check(l); e != api.ErrArg {
			t.Errorf("Check(%v): %v, want ErrArg", l, e)
		}
	}
	var long []uint64
	for n := range uint64(3 * api.MaxItems) { // a list may have any number of members
		long = append(long, n*n)
	}
	if e := Check(long); e != api.OK {
		t.Errorf("a long list: %v", e)
	}
	long[len(long)-1] = long[len(long)-2]
	if e := Check(long); e != api.ErrArg {
		t.Errorf("a long list that ends wrong: %v", e)
	}
}

func TestPutTogether(t *testing.T) { // 13.1, by hand
	for _, x := range []struct {
		a, b, and, or, but []uint64
	}{
		{list(1, 3, 5), list(3, 4, 5), list(3, 5), list(1, 3, 4, 5), list(1)},
		{list(3, 4, 5), list(1, 3, 5), list(3, 5), list(1, 3, 4, 5), list(4)},
		{nil, nil, nil, nil, nil},
		{nil, list(), nil, nil, nil},
		{nil, list(0), nil, list(0), nil},
		{list(0), nil, nil, list(0), list(0)},
		{list(0), list(0), list(0), list(0), nil},
		{list(highest), list(highest), list(highest), list(highest), nil},
		{list(0), list(highest), nil, list(0, highest), list(0)},
		{list(highest), list(0), nil, list(0, highest), list(highest)},
		{list(0, highest), list(highest), list(highest), list(0, highest), list(0)},
		{list(0, highest), list(0), list(0), list(0, highest), list(highest)},
		{list(1, 2, 3), list(1, 2, 3), list(1, 2, 3), list(1, 2, 3), nil},                             // the same
		{list(1, 3, 5), list(2, 4, 6), nil, list(1, 2, 3, 4, 5, 6), list(1, 3, 5)},                    // none in common
		{list(1, 2), list(8, 9), nil, list(1, 2, 8, 9), list(1, 2)},                                   // one behind the other
		{list(8, 9), list(1, 2), nil, list(1, 2, 8, 9), list(8, 9)},                                   //
		{list(1, 2, 3, 4), list(2, 3), list(2, 3), list(1, 2, 3, 4), list(1, 4)},                      // one within the other
		{list(2, 3), list(1, 2, 3, 4), list(2, 3), list(1, 2, 3, 4), nil},                             //
		{list(1<<63 - 1), list(1 << 63), nil, list(1<<63-1, 1<<63), list(1<<63 - 1)},                  // not as numbers with a sign
		{list(1<<32 + 7), list(7), nil, list(7, 1<<32+7), list(1<<32 + 7)},                            // not by 32 bits
		{list(1<<63, 1<<63+1), list(1<<63 + 1), list(1<<63 + 1), list(1<<63, 1<<63+1), list(1 << 63)}, // not as floats
	} {
		what := fmt.Sprint(x.a, x.b)
		for range 2 { // P2: the second time as the first
			l, e := And(x.a, x.b)
			mustBe(t, "And of "+what, l, e, x.and)
			l, e = Or(x.a, x.b)
			mustBe(t, "Or of "+what, l, e, x.or)
			l, e = But(x.a, x.b)
			mustBe(t, "But of "+what, l, e, x.but)
		}
	}
}

func TestNoListAndOne(t *testing.T) { // 13.1
	for range 2 {
		l, e := And()
		mustBe(t, "And of none", l, e, nil)
		l, e = Or()
		mustBe(t, "Or of none", l, e, nil)
	}
	l, e := And([][]uint64{}...)
	mustBe(t, "And of an empty list of lists", l, e, nil)
	for _, x := range right() {
		l, e := And(x)
		mustBe(t, "And of one", l, e, x)
		l, e = Or(x)
		mustBe(t, "Or of one", l, e, x)
		l, e = And(x, x)
		mustBe(t, "And of one twice", l, e, x)
		l, e = Or(x, x, x)
		mustBe(t, "Or of one three times", l, e, x)
		l, e = But(x, x)
		mustBe(t, "But of one twice", l, e, nil)
		l, e = And(x, nil)
		mustBe(t, "And with none", l, e, nil)
		l, e = Or(nil, x, []uint64{})
		mustBe(t, "Or with none", l, e, x)
		l, e = But(x, nil)
		mustBe(t, "But of it and none", l, e, x)
		l, e = But(nil, x)
		mustBe(t, "But of none and it", l, e, nil)
	}
}

func TestManyLists(t *testing.T) { // 13.1: of MaxItems lists, and of one more
	many := make([][]uint64, api.MaxItems)
	var all []uint64
	for k := range many {
		n := uint64(api.MaxItems - k) // falling, as the order of lists says nothing
		many[k] = list(n, 1<<40, 1<<41+n)
		all = append(all, uint64(k)+1)
	}
	all = append(all, 1<<40)
	for k := range many {
		all = append(all, 1<<41+uint64(k)+1)
	}
	l, e := And(many...)
	mustBe(t, "And of MaxItems lists", l, e, list(1<<40))
	l, e = Or(many...)
	mustBe(t, "Or of MaxItems lists", l, e, all)
	for _, gone := range []int{0, 1, api.MaxItems / 2, api.MaxItems - 1} { // each list counts
		other := slices.Clone(many)
		other[gone] = nil
		l, e = And(other...)
		mustBe(t, "And with one that has nothing", l, e, nil)
		n := many[gone][0]
		l, e = Or(other...)
		mustBe(t, "Or with one that has nothing", l, e, inNot(all, list(n, 1<<41+n)))
		other[gone] = list(2, 1)
		l, e = And(other...)
		mustRefuse(t, "And with a wrong one", l, e, api.ErrArg)
		l, e = Or(other...)
		mustRefuse(t, "Or with a wrong one", l, e, api.ErrArg)
	}
	for _, more := range [][]uint64{nil, list(1 << 40), list(1, 1)} { // ErrLong is named ahead of ErrArg
		l, e = And(append(slices.Clone(many), more)...)
		mustRefuse(t, "And of one more", l, e, api.ErrLong)
		l, e = Or(append(slices.Clone(many), more)...)
		mustRefuse(t, "Or of one more", l, e, api.ErrLong)
	}
	l, e = And(make([][]uint64, api.MaxItems+1)...)
	mustRefuse(t, "And of MaxItems and one without numbers", l, e, api.ErrLong)
	l, e = Or(append([][]uint64{list(1, 1)}, many...)...)
	mustRefuse(t, "Or that begins with a wrong one", l, e, api.ErrLong)
	l, e = And(make([][]uint64, api.MaxItems)...)
	mustBe(t, "And of MaxItems without numbers", l, e, nil)
}

func TestWrongLists(t *testing.T) { // 13.1, P1: ErrArg, wherever the wrong list is, and whatever else would end it early
	good := list(1, 3, 5)
	for _, bad := range wrong() {
		for _, l := range [][][]uint64{{bad}, {bad, good}, {good, bad}, {nil, bad}, {bad, nil}, {nil, nil, bad}, {good, bad, good}, {good, list(2), good, bad}, {bad, bad}} {
			got, e := And(l...)
			mustRefuse(t, fmt.Sprint("And of ", l), got, e, api.ErrArg)
			got, e = Or(l...)
			mustRefuse(t, fmt.Sprint("Or of ", l), got, e, api.ErrArg)
		}
		for _, l := range append(right(), bad) {
			got, e := But(bad, l)
			mustRefuse(t, fmt.Sprint("But of ", bad, l), got, e, api.ErrArg)
			got, e = But(l, bad)
			mustRefuse(t, fmt.Sprint("But of ", l, bad), got, e, api.ErrArg)
		}
		for _, n := range append(numbers(), bad...) {
			got, e := Add(bad, n)
			mustRefuse(t, fmt.Sprint("Add to ", bad), got, e, api.ErrArg)
			got, e = Drop(bad, n)
			mustRefuse(t, fmt.Sprint("Drop of ", bad), got, e, api.ErrArg)
			if ok, e := Has(bad, n); ok || e != api.ErrArg {
				t.Fatalf("Has(%v, %d): %v, %v, want ErrArg", bad, n, ok, e)
			}
		}
	}
}

func TestOneNumber(t *testing.T) { // 13.1: Add, Drop and Has, of numbers that are there, and that are not
	r := rand.New(rand.NewSource(131))
	lists := right()
	for range 300 {
		lists = append(lists, drawnList(r))
	}
	for _, l := range lists {
		for _, n := range numbers() {
			want := slices.Contains(l, n)
			if ok, e := Has(l, n); ok != want || e != api.OK {
				t.Fatalf("Has(%v, %d): %v, %v", l, n, ok, e)
			}
			with, e := Add(l, n)
			mustBe(t, fmt.Sprint("Add to ", l, n), with, e, inOne(l, list(n)))
			without, e := Drop(l, n)
			mustBe(t, fmt.Sprint("Drop of ", l, n), without, e, inNot(l, list(n)))
			back, e := Drop(with, n)
			mustBe(t, "Drop of what was added", back, e, without)
			again, e := Add(without, n)
			mustBe(t, "Add of what was dropped", again, e, with)
		}
	}
}

func TestOneNumberByHand(t *testing.T) { // 13.1
	for _, x := range []struct {
		l         []uint64
		n         uint64
		has       bool
		add, drop []uint64
	}{
		{nil, 0, false, list(0), nil},
		{list(0), 0, true, list(0), nil},
		{list(1), 0, false, list(0, 1), list(1)},
		{nil, highest, false, list(highest), nil},
		{list(highest), highest, true, list(highest), nil},
		{list(0, highest), highest, true, list(0, highest), list(0)},
		{list(1, 3, 5), 4, false, list(1, 3, 4, 5), list(1, 3, 5)},
		{list(1, 3, 5), 1, true, list(1, 3, 5), list(3, 5)},
		{list(1, 3, 5), 3, true, list(1, 3, 5), list(1, 5)},
		{list(1, 3, 5), 5, true, list(1, 3, 5), list(1, 3)},
		{list(1, 3, 5), 6, false, list(1, 3, 5, 6), list(1, 3, 5)},
		{list(7), 1<<32 + 7, false, list(7, 1<<32+7), list(7)},
	} {
		l, e := Add(x.l, x.n)
		mustBe(t, "Add", l, e, x.add)
		l, e = Drop(x.l, x.n)
		mustBe(t, "Drop", l, e, x.drop)
		if ok, e := Has(x.l, x.n); ok != x.has || e != api.OK {
			t.Errorf("Has(%v, %d): %v, %v", x.l, x.n, ok, e)
		}
	}
}

func TestAll(t *testing.T) { // 13.1: of any list, as often as it is gone through
	for _, l := range append(right(), wrong()...) {
		all := All(l)
		for range 3 {
			if got := slices.Collect(all); !slices.Equal(got, l) {
				t.Fatalf("All(%v): %v", l, got)
			}
		}
		for most := range len(l) { // it is left in the midst, and then it is whole again
			var got []uint64
			for n := range all {
				got = append(got, n)
				if len(got) > most {
					break
				}
			}
			if !slices.Equal(got, l[:most+1]) {
				t.Fatalf("All(%v), left behind %d: %v", l, most+1, got)
			}
			if got := slices.Collect(all); !slices.Equal(got, l) {
				t.Fatalf("All(%v), behind one that was left: %v", l, got)
			}
		}
		for a := range all { // one within the other
			var got []uint64
			for n := range all {
				got = append(got, n)
			}
			if !slices.Equal(got, l) {
				t.Fatalf("All(%v), within itself at %d: %v", l, a, got)
			}
		}
	}
}

func TestAllKeepsNothing(t *testing.T) { // 13.1, rule 4: a list that is changed later says nothing
	l := list(1, 3, 5)
	all := All(l)
	spoil(l)
	for range 2 {
		if got := slices.Collect(all); !slices.Equal(got, list(1, 3, 5)) {
			t.Fatalf("All of a list that is changed: %v", got)
		}
	}
	l = list(1, 3, 5)
	var got []uint64
	for n := range All(l) {
		got = append(got, n)
		spoil(l)
	}
	if !slices.Equal(got, list(1, 3, 5)) {
		t.Fatalf("All of a list that is changed on the way: %v", got)
	}
	if all = All(nil); all == nil || len(slices.Collect(all)) != 0 {
		t.Errorf("All(nil) is %v", all)
	}
}

// answers is what all calls say that put lists together, of these lists and this number; lists that are refused, too.
func answers(a, b []uint64, n uint64) [][]uint64 {
	var out [][]uint64
	put := func(l []uint64, e api.Errno) { out = append(out, l, list(uint64(e))) }
	put(And(a))
	put(Or(a))
	put(And(a, b))
	put(Or(a, b))
	put(Or(a, a))
	put(And(a, b, a))
	put(Or(nil, a, b))
	put(But(a, b))
	put(But(a, nil))
	put(Add(a, n))
	put(Drop(a, n))
	put(slices.Collect(All(a)), Check(a))
	if ok, e := Has(a, n); ok {
		put(list(n), e)
	} else {
		put(nil, e)
	}
	return out
}

func same(a, b [][]uint64) bool { return slices.EqualFunc(a, b, slices.Equal) }

func TestNothingIsShared(t *testing.T) { // rule 4, P2: what is handed in stays as it is, and what is handed out is the caller's own
	r := rand.New(rand.NewSource(132))
	lists := append(drawnLists(r, 60), append(right(), wrong()...)...)
	for range 3000 {
		a, wholeA := roomy(lists[r.Intn(len(lists))])
		b, wholeB := roomy(lists[r.Intn(len(lists))])
		n := numbers()[r.Intn(len(numbers()))]
		keptA, keptB := slices.Clone(wholeA), slices.Clone(wholeB)
		before := answers(a, b, n)
		for _, l := range answers(a, b, n) {
			spoil(l)
		}
		if !slices.Equal(wholeA, keptA) || !slices.Equal(wholeB, keptB) {
			t.Fatalf("handed in: %v, %v; now: %v, %v", keptA, keptB, wholeA, wholeB)
		}
		after := answers(a, b, n)
		if !same(before, after) {
			t.Fatalf("%v, %v: %v, then %v", a, b, before, after)
		}
		spoil(wholeA)
		spoil(wholeB)
		if !same(before, after) {
			t.Fatalf("%v, %v: what was handed out hangs on what was handed in", keptA, keptB)
		}
	}
}

func TestListsOfListsStay(t *testing.T) { // rule 4: nor is the list of lists changed
	l := [][]uint64{list(1, 3, 5), list(3, 4, 5), nil, list(5), list(0, 5)}
	if _, e := Or(l[:2]...); e != api.OK {
		t.Fatal(e)
	}
	if _, e := And(l...); e != api.OK {
		t.Fatal(e)
	}
	if want := [][]uint64{list(1, 3, 5), list(3, 4, 5), nil, list(5), list(0, 5)}; !same(l, want) {
		t.Errorf("%v, want %v", l, want)
	}
}

func TestLongLists(t *testing.T) { // 13.1: any number of members
	var twos, threes []uint64
	for n := range uint64(200000) {
		twos, threes = append(twos, 2*n), append(threes, 3*n)
	}
	and, e := And(twos, threes)
	if e != api.OK || len(and) != 66667 || and[66666] != 399996 {
		t.Errorf("And: %d numbers, %v", len(and), e)
	}
	or, e := Or(twos, threes)
	if e != api.OK || len(or) != 400000-66667 || or[len(or)-1] != 599997 {
		t.Errorf("Or: %d numbers, %v", len(or), e)
	}
	but, e := But(twos, threes)
	if e != api.OK || len(but) != 200000-66667 || but[0] != 2 {
		t.Errorf("But: %d numbers, %v", len(but), e)
	}
}
