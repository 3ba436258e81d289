package post

import (
	"fmt"
	"math/rand"
	"slices"
	"testing"

	"tidepole/api"
)

// and, or and but are the calls of lists that rise.
func and(t *testing.T, l ...[]uint64) []uint64 {
	t.Helper()
	out, e := And(l...)
	if e != api.OK {
		t.Fatalf("And(%v): %v", l, e)
	}
	return out
}

func or(t *testing.T, l ...[]uint64) []uint64 {
	t.Helper()
	out, e := Or(l...)
	if e != api.OK {
		t.Fatalf("Or(%v): %v", l, e)
	}
	return out
}

func but(t *testing.T, a, b []uint64) []uint64 {
	t.Helper()
	out, e := But(a, b)
	if e != api.OK {
		t.Fatalf("But(%v, %v): %v", a, b, e)
	}
	return out
}

func TestDrawnLists(t *testing.T) { // 13.1: any number of lists, against the words
	r := rand.New(rand.NewSource(133))
	found := 0
	for range 20000 {
		l := drawnLists(r, r.Intn(7))
		want := inAll(l...)
		if got := and(t, l...); !slices.Equal(got, want) {
			t.Fatalf("And(%v): %v, want %v", l, got, want)
		}
		if len(l) > 1 && len(want) > 0 {
			found++
		}
		if got, want := or(t, l...), inOne(l...); !slices.Equal(got, want) {
			t.Fatalf("Or(%v): %v, want %v", l, got, want)
		}
		a, b := drawnList(r), drawnList(r)
		if got, want := but(t, a, b), inNot(a, b); !slices.Equal(got, want) {
			t.Fatalf("But(%v, %v): %v, want %v", a, b, got, want)
		}
	}
	if found < 3000 {
		t.Errorf("only %d And's with numbers", found)
	}
}

func TestNoOrder(t *testing.T) { // 13.3: And and Or hang on no order of lists
	r := rand.New(rand.NewSource(134))
	for range 3000 {
		l := drawnLists(r, 1+r.Intn(8))
		a, o := and(t, l...), or(t, l...)
		for range 3 {
			r.Shuffle(len(l), func(i, k int) { l[i], l[k] = l[k], l[i] })
			if got := and(t, l...); !slices.Equal(got, a) {
				t.Fatalf("And(%v): %v, want %v", l, got, a)
			}
			if got := or(t, l...); !slices.Equal(got, o) {
				t.Fatalf("Or(%v): %v, want %v", l, got, o)
			}
		}
		slices.Reverse(l)
		twice := append(slices.Clone(l), l...)
		if got := and(t, twice...); !slices.Equal(got, a) {
			t.Fatalf("And(%v): %v, want %v", twice, got, a)
		}
		if got := or(t, twice...); !slices.Equal(got, o) {
			t.Fatalf("Or(%v): %v, want %v", twice, got, o)
		}
	}
}

func TestAsSets(t *testing.T) { // 13.3: Or of And's, and And of Or's, are as of sets
	r := rand.New(rand.NewSource(135))
	for range 8000 {
		a, b, c, d := drawnList(r), drawnList(r), drawnList(r), drawnList(r)
		for _, x := range []struct {
			what      string
			got, want []uint64
		}{
			{"Or of And's", or(t, and(t, a, b), c), and(t, or(t, a, c), or(t, b, c))},
			{"And of Or's", and(t, or(t, a, b), c), or(t, and(t, a, c), and(t, b, c))},
			{"Or of two And's", or(t, and(t, a, b), and(t, c, d)), inOne(inAll(a, b), inAll(c, d))},
			{"And of two Or's", and(t, or(t, a, b), or(t, c, d)), inAll(inOne(a, b), inOne(c, d))},
			{"And within And", and(t, a, and(t, b, and(t, c, d))), and(t, a, b, c, d)},
			{"Or within Or", or(t, or(t, or(t, a, b), c), d), or(t, a, b, c, d)},
			{"Or with one's own And", or(t, a, and(t, a, b)), a},
			{"And with one's own Or", and(t, a, or(t, a, b)), a},
			{"But of Or", but(t, a, or(t, b, c)), and(t, but(t, a, b), but(t, a, c))},
			{"But of And", but(t, a, and(t, b, c)), or(t, but(t, a, b), but(t, a, c))},
		} {
			if !slices.Equal(x.got, x.want) {
				t.Fatalf("%s of %v, %v, %v, %v: %v, want %v", x.what, a, b, c, d, x.got, x.want)
			}
		}
	}
}

func TestButAndAnd(t *testing.T) { // 13.4: together they are the first one, and have no number in common
	r := rand.New(rand.NewSource(136))
	lists := append(drawnLists(r, 120), right()...)
	for _, a := range lists {
		for _, b := range lists {
			rest, common := but(t, a, b), and(t, a, b)
			if got := or(t, rest, common); !slices.Equal(got, a) {
				t.Fatalf("%v, %v: But %v and And %v together are %v", a, b, rest, common, got)
			}
			if len(rest)+len(common) != len(a) {
				t.Fatalf("%v, %v: But %v and And %v", a, b, rest, common)
			}
			if got := and(t, rest, common); len(got) != 0 {
				t.Fatalf("%v, %v: But and And have %v in common", a, b, got)
			}
		}
	}
}

func TestWhatIsAnsweredRises(t *testing.T) { // 13.1: an answer is a list, and may be asked with
	r := rand.New(rand.NewSource(137))
	for range 3000 {
		l := drawnLists(r, 2+r.Intn(4))
		n := numbers()[r.Intn(len(numbers()))]
		with, _ := Add(l[0], n)
		without, _ := Drop(l[0], n)
		for k, got := range [][]uint64{and(t, l...), or(t, l...), but(t, l[0], l[1]), with, without} {
			if e := Check(got); e != api.OK {
				t.Fatalf("the answer %d of %v, %d: %v, %v", k, l, n, got, e)
			}
		}
	}
}

func TestExample(t *testing.T) { // the chapter's example
	a, b := list(1, 3, 5), list(3, 4, 5)
	got := fmt.Sprint(and(t, a, b), or(t, a, b), but(t, a, b))
	if got != "[3 5] [1 3 4 5] [1]" {
		t.Error(got)
	}
}
