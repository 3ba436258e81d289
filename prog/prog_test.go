package prog

import (
	"math"
	"math/rand"
	"slices"
	"strings"
	"testing"

	"tidepole/api"
)

// mustBe holds what Check and Text say of l against the words, and against whether it may be.
func mustBe(t *testing.T, what string, l []api.Inst, may bool) {
	t.Helper()
	if mayRun(l) != may {
		t.Fatalf("%s: may be: %v by the words", what, !may)
	}
	e, want := api.ErrProg, ""
	if may {
		e, want = api.OK, lines(l)
	}
	elder := slices.Clone(l)
	for range 2 { // P2: the second time as the first
		if got := Check(l); got != e {
			t.Errorf("Check(%s): %v, want %v", what, got, e)
		}
		if s, got := Text(l); s != want || got != e {
			t.Errorf("Text(%s): %q, %v, want %q, %v", what, s, got, want, e)
		}
	}
	if !slices.Equal(l, elder) {
		t.Errorf("%s is changed", what)
	}
}

// mustBeAt holds x at the front, within, and at the end of n instructions against whether it may be.
func mustBeAt(t *testing.T, what string, x api.Inst, n int, may bool) {
	t.Helper()
	for _, at := range []int{0, n / 2, n - 1} {
		l := slices.Repeat([]api.Inst{{Op: 3}}, n)
		l[at] = x
		mustBe(t, what, l, may)
	}
}

func TestLengths(t *testing.T) { // 11.2: none, one, MaxProg, one more
	mustBe(t, "nil", nil, false)
	mustBe(t, "none", []api.Inst{}, false)
	for _, x := range []api.Inst{{Op: 3}, {Op: 4}, {Op: 1}, {Op: 1, Set: every().Set}, {Op: 2}} { // all lead to 0, if they lead anywhere
		for n, may := range map[int]bool{1: true, 2: true, 3: true, 2047: true, 2048: true, 2049: false, 2050: false, 5000: false} {
			mustBe(t, "so many", slices.Repeat([]api.Inst{x}, n), may)
		}
	}
	mustBe(t, "far too many", make([]api.Inst, 1<<20), false)
}

func TestOps(t *testing.T) { // 11.2: an Op that is none
	for _, op := range []int{0, -1, 5, 6, 9, 255, 256 + 1, 1<<32 + 1, math.MinInt, math.MaxInt} {
		for _, x := range []api.Inst{{Op: op}, {Op: op, X: 1}, {Op: op, X: 1, Y: 1}, {Op: op, Set: of('a').Set}} {
			mustBeAt(t, "no Op", x, 1, false)
			mustBeAt(t, "no Op", x, 5, false)
		}
	}
	mustBe(t, "the plain one", []api.Inst{{}}, false)
}

func TestNumbers(t *testing.T) { // 11.2: X and Y, the last number, the one behind it, -1, and far ones
	for _, n := range []int{1, 2, 7, 2048} {
		for _, k := range []int{math.MinInt, -n, -2, -1, 0, 1, n - 2, n - 1, n, n + 1, 2047, 2048, 2049, 1<<32 + 0, 1 << 62, math.MaxInt} {
			in := k >= 0 && k < n
			mustBeAt(t, "X of a byte", api.Inst{Op: 1, Set: of('a').Set, X: k}, n, in)
			mustBeAt(t, "Y of a byte", api.Inst{Op: 1, Set: of('a').Set, Y: k}, n, k == 0)
			mustBeAt(t, "X of a split", api.Inst{Op: 2, X: k}, n, in)
			mustBeAt(t, "Y of a split", api.Inst{Op: 2, Y: k}, n, in)
			mustBeAt(t, "X and Y of a split", api.Inst{Op: 2, X: k, Y: k}, n, in)
			mustBeAt(t, "X of a split, Y the last number", api.Inst{Op: 2, X: k, Y: n - 1}, n, in)
			mustBeAt(t, "Y of a split, X the last number", api.Inst{Op: 2, X: n - 1, Y: k}, n, in)
			mustBeAt(t, "X of an end", api.Inst{Op: 3, X: k}, n, k == 0)
			mustBeAt(t, "Y of an end", api.Inst{Op: 3, Y: k}, n, k == 0)
			mustBeAt(t, "X of a jump", api.Inst{Op: 4, X: k}, n, in)
			mustBeAt(t, "Y of a jump", api.Inst{Op: 4, Y: k}, n, k == 0)
			mustBeAt(t, "Y of a jump, X the last number", api.Inst{Op: 4, X: n - 1, Y: k}, n, k == 0)
		}
	}
}

func TestSets(t *testing.T) { // 11.2: none, one byte, all; and where none may be
	for b := range 256 {
		one := of(byte(b)).Set
		mustBeAt(t, "a byte's", api.Inst{Op: 1, Set: one, X: 1}, 3, true)
		for op := 2; op <= 4; op++ {
			mustBeAt(t, "another's", api.Inst{Op: op, Set: one}, 3, false)
		}
	}
	for op := 1; op <= 4; op++ {
		mustBeAt(t, "all bytes", api.Inst{Op: op, Set: every().Set}, 3, op == 1)
		mustBeAt(t, "no byte", api.Inst{Op: op}, 3, true)
	}
	set := api.Set{}
	for n := range 256 {
		if s, e := Text([]api.Inst{{Op: 1, Set: set}}); s != lines([]api.Inst{{Op: 1, Set: set}}) || e != api.OK {
			t.Errorf("%d bytes: %q, %v", n, s, e)
		}
		b := n * 77 % 256
		set[b/64] |= 1 << (b % 64)
	}
	if set != every().Set {
		t.Errorf("%x is not all bytes", set)
	}
}

func TestText(t *testing.T) { // 11.2
	l := []api.Inst{{Op: 2, X: 5, Y: 4}, {Op: 1, X: 3}, {Op: 1, Set: of('a').Set, X: 0}, {Op: 1, Set: of(0, 64, 128, 255).Set, X: 5}, {Op: 1, Set: every().Set, X: 4}, {Op: 4, X: 2}, {Op: 3}, {Op: 2}, {Op: 4}, {Op: 3}}
	want := "split 5 4\nbyte 0 3\nbyte 1 0\nbyte 4 5\nbyte 256 4\njump 2\nend\nsplit 0 0\njump 0\nend\n"
	if s, e := Text(l); s != want || e != api.OK {
		t.Errorf("%q, %v, want %q", s, e, want)
	}
	mustBe(t, "all Ops", l, true)
	l = slices.Repeat([]api.Inst{{Op: 2, X: 2047, Y: 1024}}, 2048)
	if s, e := Text(l); s != strings.Repeat("split 2047 1024\n", 2048) || e != api.OK {
		t.Errorf("MaxProg: %d bytes, %v", len(s), e)
	}
	if s, e := Text(append(l, api.Inst{Op: 3})); s != "" || e != api.ErrProg {
		t.Errorf("one more: %d bytes, %v", len(s), e)
	}
}

func TestNoEndIsAsked(t *testing.T) { // 11.2 asks for none, nor that all are come to
	mustBe(t, "a jump to itself", []api.Inst{{Op: 4}}, true)
	mustBe(t, "two ends", []api.Inst{{Op: 3}, {Op: 3}}, true)
	mustBe(t, "an end ahead", []api.Inst{{Op: 3}, {Op: 1, Set: of('a').Set, X: 0}}, true)
}

func TestDrawnLists(t *testing.T) { // 11.2, against the words
	r := rand.New(rand.NewSource(114))
	count := [2]int{}
	for range 50000 {
		n := 1 + r.Intn(6)
		l := make([]api.Inst, n)
		for k := range l {
			l[k].Op = 1 + r.Intn(4)
			if l[k].Op == 1 {
				l[k].Set = drawnSet(r)
			}
			if l[k].Op != 3 {
				l[k].X = r.Intn(n)
			}
			if l[k].Op == 2 {
				l[k].Y = r.Intn(n)
			}
		}
		switch k := r.Intn(n); r.Intn(8) { // some go wrong, and some of these only perhaps
		case 0:
			l[k].Op = r.Intn(7) - 1
		case 1:
			l[k].X = r.Intn(n+3) - 1
		case 2:
			l[k].Y = r.Intn(n+3) - 1
		case 3:
			l[k].Set = drawnSet(r)
		}
		may := mayRun(l)
		mustBe(t, lines(l), l, may)
		if may {
			count[0]++
		} else {
			count[1]++
		}
	}
	if slices.Min(count[:]) < 5000 {
		t.Errorf("drawn: %v", count)
	}
}
