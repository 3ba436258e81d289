package prog

import (
	"fmt"
	"math"
	"math/rand"
	"slices"
	"strings"
	"testing"

	"tidepole/api"
	"tidepole/syntax"
)

// mustMake holds the program of r against the words, and against all that follows (11.3, 11.4, 11.5), and hands it out.
func mustMake(t *testing.T, what string, r api.Re) []api.Inst {
	t.Helper()
	l, e := Make(r)
	if want := made(r); e != api.OK || !slices.Equal(l, want) {
		t.Errorf("Make(%s): %v, %v\nwant %v", what, l, e, want)
		return nil
	}
	if n, e := Count(r); n != len(l) || e != api.OK {
		t.Errorf("Count(%s): %d, %v, want %d", what, n, e, len(l))
	}
	mustFollow(t, what, l)
	return l
}

// mustFollow holds a program that was made against 11.3 and 11.5.
func mustFollow(t *testing.T, what string, l []api.Inst) {
	t.Helper()
	if e := Check(l); e != api.OK || !mayRun(l) {
		t.Errorf("%s: Check: %v", what, e)
		return
	}
	for k, x := range l {
		if (x.Op == 3) != (k == len(l)-1) {
			t.Errorf("%s: %d of %d has the Op %d", what, k, len(l), x.Op)
		}
	}
	seen, work := make([]bool, len(l)), []int{0}
	for len(work) > 0 {
		k := work[0]
		work = work[1:]
		if !seen[k] {
			seen[k] = true
			work = append(work, l[k].X, l[k].Y)
		}
	}
	if k := slices.Index(seen, false); k >= 0 {
		t.Errorf("%s: %d is not come to", what, k)
	}
}

// mustTell holds the program of r, as a text, against lines with blanks between them.
func mustTell(t *testing.T, what string, r api.Re, want string) {
	t.Helper()
	s, e := Text(mustMake(t, what, r))
	if s != strings.ReplaceAll(want, "; ", "\n")+"\n" || e != api.OK {
		t.Errorf("%s: %q, %v, want %s", what, s, e, want)
	}
}

func TestPatterns(t *testing.T) { // 11.1, as texts
	for s, want := range map[string]string{
		"a":            "byte 1 1; end",
		"":             "jump 1; end",
		"()":           "jump 1; end",
		".":            "byte 255 1; end",
		"[ab]":         "byte 2 1; end",
		`[\x00-\xff]`:  "byte 256 1; end",
		`[^\x00-\xff]`: "byte 0 1; end",
		"abc":          "byte 1 1; byte 1 2; byte 1 3; end",
		"a|b":          "split 1 2; byte 1 3; byte 1 3; end",
		"a|b|c":        "split 1 2; byte 1 5; split 3 4; byte 1 5; byte 1 5; end",
		"ab|cd":        "split 1 3; byte 1 2; byte 1 5; byte 1 4; byte 1 5; end",
		"|":            "split 1 2; jump 3; jump 3; end",
		"a|":           "split 1 2; byte 1 3; jump 3; end",
		"|a":           "split 1 2; jump 3; byte 1 3; end",
		"(a|b)c":       "split 1 2; byte 1 3; byte 1 3; byte 1 4; end",
		"a(b|c)":       "byte 1 1; split 2 3; byte 1 4; byte 1 4; end",
		"(a|b)|c":      "split 1 4; split 2 3; byte 1 5; byte 1 5; byte 1 5; end",
		"a|(b|c)":      "split 1 2; byte 1 5; split 3 4; byte 1 5; byte 1 5; end",
		"a*":           "split 1 2; byte 1 0; end",
		"a+":           "byte 1 1; split 2 3; byte 1 1; end",
		"a?":           "split 1 2; byte 1 2; end",
		"a{0}":         "jump 1; end",
		"a{0,0}":       "jump 1; end",
		"a{1}":         "byte 1 1; end",
		"a{3}":         "byte 1 1; byte 1 2; byte 1 3; end",
		"a{0,}":        "split 1 2; byte 1 0; end",
		"a{2,}":        "byte 1 1; byte 1 2; split 3 4; byte 1 2; end",
		"a{0,2}":       "split 1 4; byte 1 2; split 3 4; byte 1 4; end",
		"a{1,3}":       "byte 1 1; split 2 5; byte 1 3; split 4 5; byte 1 5; end",
		"a{1,3}b":      "byte 1 1; split 2 5; byte 1 3; split 4 5; byte 1 5; byte 1 6; end",
		"(a{0,2})*":    "split 1 5; split 2 0; byte 1 3; split 4 0; byte 1 0; end",
		"(a{1,3})+":    "byte 1 1; split 2 5; byte 1 3; split 4 5; byte 1 5; split 6 11; byte 1 7; split 8 5; byte 1 9; split 10 5; byte 1 5; end",
		"(a*)*":        "split 1 3; split 2 0; byte 1 1; end",
		"(a*){2}":      "split 1 2; byte 1 0; split 3 4; byte 1 2; end",
		"()*":          "split 1 2; jump 0; end",
		"()+":          "jump 1; split 2 3; jump 1; end",
		"(){2}":        "jump 1; jump 2; end",
		"(){0,2}":      "split 1 4; jump 2; split 3 4; jump 4; end",
		"(a{0})*":      "split 1 2; jump 0; end",
		"a*b":          "split 1 2; byte 1 0; byte 1 3; end",
		"(a|b)*c":      "split 1 4; split 2 3; byte 1 0; byte 1 0; byte 1 5; end",
		"(a|b*)c":      "split 1 2; byte 1 4; split 3 4; byte 1 2; byte 1 5; end",
		"(a|b){2}":     "split 1 2; byte 1 3; byte 1 3; split 4 5; byte 1 6; byte 1 6; end",
		"a{0}b":        "jump 1; byte 1 2; end",
		"a{0}|b":       "split 1 2; jump 3; byte 1 3; end",
		"((a?)?)?":     "split 1 4; split 2 4; split 3 4; byte 1 4; end",
	} {
		r, at, e := syntax.Parse(s)
		if at != 0 || e != api.OK {
			t.Fatalf("Parse(%q): %d, %v", s, at, e)
		}
		mustTell(t, s, r, want)
	}
}

func TestRes(t *testing.T) { // 11.1, of what no pattern stands for: lists without a member, with one, within one another
	a, b, c := of('a'), of('b', 'c'), of('d', 'e', 'f')
	for _, x := range []struct {
		r    api.Re
		want string
	}{
		{all(), "jump 1; end"},
		{api.Re{Kind: 2, L: []api.Re{}}, "jump 1; end"},
		{one(), "byte 0 1; end"},
		{api.Re{Kind: 3, L: []api.Re{}}, "byte 0 1; end"},
		{of(), "byte 0 1; end"},
		{every(), "byte 256 1; end"},
		{all(a), "byte 1 1; end"},
		{one(a), "byte 1 1; end"},
		{all(all(), all()), "jump 1; jump 2; end"},
		{all(one(), one()), "byte 0 1; byte 0 2; end"},
		{one(one(), one()), "split 1 2; byte 0 3; byte 0 3; end"},
		{one(all(), one(), a), "split 1 2; jump 5; split 3 4; byte 0 5; byte 1 5; end"},
		{all(a, all(b), c), "byte 1 1; byte 2 2; byte 3 3; end"},
		{all(a, all(), c), "byte 1 1; jump 2; byte 3 3; end"},
		{all(a, one(b), c), "byte 1 1; byte 2 2; byte 3 3; end"},
		{all(all(a, b), c), "byte 1 1; byte 2 2; byte 3 3; end"},
		{all(c, all(a, b)), "byte 3 1; byte 1 2; byte 2 3; end"},
		{all(one(a, b), all()), "split 1 2; byte 1 3; byte 2 3; jump 4; end"},
		{all(all(), one(a, b)), "jump 1; split 2 3; byte 1 4; byte 2 4; end"},
		{one(all(a, b), c), "split 1 3; byte 1 2; byte 2 4; byte 3 4; end"},
		{one(c, all(a, b)), "split 1 2; byte 3 4; byte 1 3; byte 2 4; end"},
		{one(one(a, b), one(c)), "split 1 4; split 2 3; byte 1 5; byte 2 5; byte 3 5; end"},
		{one(one(one(a))), "byte 1 1; end"},
		{rep(0, 0, a), "jump 1; end"},
		{rep(0, 0, all(a, b)), "jump 1; end"},
		{rep(0, -1, one()), "split 1 2; byte 0 0; end"},
		{rep(0, -1, all()), "split 1 2; jump 0; end"},
		{rep(1, -1, all()), "jump 1; split 2 3; jump 1; end"},
		{rep(2, 2, one()), "byte 0 1; byte 0 2; end"},
		{rep(1, 2, all()), "jump 1; split 2 3; jump 3; end"},
		{rep(2, 4, b), "byte 2 1; byte 2 2; split 3 6; byte 2 4; split 5 6; byte 2 6; end"},
		{all(rep(0, 2, a), b), "split 1 4; byte 1 2; split 3 4; byte 1 4; byte 2 5; end"},
		{one(rep(0, 2, a), b), "split 1 5; split 2 6; byte 1 3; split 4 6; byte 1 6; byte 2 6; end"},
		{one(b, rep(0, 2, a)), "split 1 2; byte 2 6; split 3 6; byte 1 4; split 5 6; byte 1 6; end"},
		{rep(0, 2, rep(0, 2, a)), "split 1 10; split 2 5; byte 1 3; split 4 5; byte 1 5; split 6 10; split 7 10; byte 1 8; split 9 10; byte 1 10; end"},
		{rep(0, -1, rep(0, -1, a)), "split 1 3; split 2 0; byte 1 1; end"},
		{rep(2, 2, rep(0, 0, a)), "jump 1; jump 2; end"},
		{rep(0, 1, rep(0, 0, a)), "split 1 2; jump 2; end"},
		{rep(1, 1, rep(1, 1, rep(1, 1, a))), "byte 1 1; end"},
	} {
		mustTell(t, told(x.r), x.r, x.want)
	}
}

func TestSetsStand(t *testing.T) { // 11.1: an Op 1 has the Set itself
	r := rand.New(rand.NewSource(111))
	for range 1000 {
		set := drawnSet(r)
		l := mustMake(t, "a set", api.Re{Kind: 1, Set: set})
		if want := (api.Inst{Op: 1, Set: set, X: 1}); len(l) != 2 || l[0] != want || l[1] != (api.Inst{Op: 3}) {
			t.Errorf("of %x: %v", set, l)
		}
	}
}

func TestTimes(t *testing.T) { // 11.1: all Mins and Maxs, alone and within others
	for from := range 65 {
		for to := -1; to <= 64; to++ {
			if to >= 0 && to < from {
				continue
			}
			for _, x := range []api.Re{of('a'), all(), one(), one(of('a'), of('b')), rep(0, -1, of('a')), rep(0, 0, of('a'))} {
				mustMake(t, told(x), rep(from, to, x))
			}
			mustMake(t, "within", one(all(rep(from, to, of('a')), of('b')), rep(from, to, all()), rep(0, 1, rep(from, to, of('c')))))
		}
	}
	deep := of('a')
	for range 127 {
		deep = rep(1, 1, deep)
	}
	mustMake(t, "as deep as may be", deep)
	for deep = of('a'); syntax.Check(rep(0, -1, deep)); deep = rep(0, -1, deep) {
		mustMake(t, "within one another", deep)
	}
}

func TestDrawnPrograms(t *testing.T) { // 11.1, 11.3, 11.4, 11.5, against the words
	r := rand.New(rand.NewSource(112))
	most := 0
	for k := range 30000 {
		x := drawnRe(r, r.Intn(6), 1+k%4)
		n := bounded(x)
		if n > 2048 {
			mustRefuse(t, told(x), x, api.ErrProg)
			continue
		}
		elder := told(x)
		mustMake(t, elder, x)
		if told(x) != elder {
			t.Errorf("%s is changed: %s", elder, told(x))
		}
		most = max(most, n)
	}
	if most < 500 {
		t.Errorf("the greatest one drawn has %d instructions", most)
	}
}

// mustRefuse holds Make's error against e.
func mustRefuse(t *testing.T, what string, r api.Re, e api.Errno) {
	t.Helper()
	for range 2 { // P2: the second time as the first
		if l, got := Make(r); len(l) != 0 || got != e {
			t.Errorf("Make(%s): %d instructions, %v, want %v", what, len(l), got, e)
		}
	}
}

// mustCount holds Count against n, and Make against it.
func mustCount(t *testing.T, what string, r api.Re, n int) {
	t.Helper()
	if want := bounded(r); want != n {
		t.Fatalf("%s: %d by the words, %d wanted", what, want, n)
	}
	if got, e := Count(r); got != n || e != api.OK {
		t.Errorf("Count(%s): %d, %v, want %d", what, got, e, n)
	}
	if n > 2048 {
		mustRefuse(t, what, r, api.ErrProg)
	} else {
		mustMake(t, what, r)
	}
}

func TestMaxProg(t *testing.T) { // 11.1: MaxProg instructions, and one more
	a := of('a')
	list := func(n int) []api.Re { return slices.Repeat([]api.Re{a}, n) }
	for n := 2040; n < 2060; n++ {
		mustCount(t, "bytes", all(list(n-1)...), n)
		mustCount(t, "repeated bytes", all(rep(31, 31, rep(64, 64, a)), all(list(n-1-31*64)...)), n)
		mustCount(t, "a loop behind them", all(all(list(n-3)...), rep(0, -1, a)), n)
		if n%2 == 0 {
			mustCount(t, "one of them", one(list(n/2)...), n)
			mustCount(t, "one of them, and a byte", all(one(list(n/2)...), a), n+1)
		}
	}
	mustCount(t, "64 times", rep(64, 64, all(list(32)...)), 2049)
	mustCount(t, "63 times, and less", all(rep(63, 63, all(list(32)...)), all(list(31)...)), 2048)
	mustCount(t, "up to 64 times", rep(0, 64, all(list(31)...)), 2049)
	mustCount(t, "up to 63 times, and more", all(rep(0, 63, all(list(31)...)), all(list(31)...)), 2048)
	mustCount(t, "1 to 64 times", rep(1, 64, all(list(31)...)), 2048)
	mustCount(t, "64 times, or more", all(rep(64, -1, all(list(30)...)), all(list(65)...)), 2017)
	mustCount(t, "64 times, or more, MaxProg", all(rep(64, -1, all(list(31)...)), all(list(31)...)), 2048)
	mustCount(t, "64 times, or more, one more", all(rep(64, -1, all(list(31)...)), all(list(32)...)), 2049)
	mustCount(t, "as many Res as may be", all(list(4095)...), 4096)
	mustCount(t, "one of as many Res as may be", one(list(4095)...), 8190)
	mustCount(t, "none of them", rep(0, 0, all(list(4094)...)), 2)
}

func TestGreatCounts(t *testing.T) { // 11.1: at 1048576, one less, and far above
	a := of('a')
	k := rep(64, 64, rep(64, 64, a)) // 4096
	g := rep(64, 64, k)              // 262144
	near := func(n int) api.Re {     // a million, less a few
		return all(rep(3, 3, g), rep(63, 63, k), rep(63, 63, rep(64, 64, a)), rep(n, n, a))
	}
	for n := 40; n < 65; n++ {
		mustCount(t, fmt.Sprint("near, with ", n), near(n), min(1048576, 3*262144+63*4096+63*64+n+1))
	}
	mustCount(t, "two less", near(61), 1048574)
	mustCount(t, "one less", near(62), 1048575)
	mustCount(t, "at it", near(63), 1048576)
	mustCount(t, "one more", near(64), 1048576)
	mustCount(t, "at it, by one of them", one(rep(2, 2, g), all(g, rep(63, 63, k), rep(63, 63, rep(64, 64, a)), rep(62, 62, a))), 1048576)
	mustCount(t, "one less, by one of them", one(rep(2, 2, g), all(g, rep(63, 63, k), rep(63, 63, rep(64, 64, a)), rep(61, 61, a))), 1048575)
	mustCount(t, "at it, by what may be left out", rep(0, 1, near(62)), 1048576)
	mustCount(t, "one less, by what may be left out", rep(0, 1, near(61)), 1048575)
	mustCount(t, "at it, without an end", rep(0, -1, near(62)), 1048576)
	mustCount(t, "one less, without an end", rep(0, -1, near(61)), 1048575)
	far := a
	for range 120 {
		far = rep(64, 64, far)
	}
	for what, r := range map[string]api.Re{"far above": far, "twice": all(far, far), "one of them": one(far, far, far), "one of them and a byte": one(far, a), "a byte or it": one(a, far), "again": rep(64, -1, far), "up to": rep(0, 64, far), "once": rep(1, 1, far), "or not": rep(0, 1, far), "any number": rep(0, -1, far), "behind none": all(rep(0, 0, far), far)} {
		mustCount(t, what, r, 1048576)
		mustCount(t, what+", none of it", rep(0, 0, r), 2)
		mustCount(t, what+", none of it, and a byte", all(rep(0, 0, r), a), 3)
	}
	mustCount(t, "many of them", all(slices.Repeat([]api.Re{g}, 1000)...), 1048576)
	mustCount(t, "one of many of them", one(slices.Repeat([]api.Re{g}, 1000)...), 1048576)
}

func TestDrawnCounts(t *testing.T) { // 11.1: against numbers without a bound
	r := rand.New(rand.NewSource(113))
	count := [3]int{}
	for range 20000 {
		x := drawnRe(r, r.Intn(8), 64)
		if !syntax.Check(x) {
			continue
		}
		n, e := Count(x)
		if want := bounded(x); n != want || e != api.OK {
			t.Errorf("Count(%s): %d, %v, want %d", told(x), n, e, want)
		}
		switch {
		case n == 1048576:
			count[0]++
		case n > 2048:
			count[1]++
		default:
			count[2]++
		}
		if _, e := Make(x); (e == api.OK) != (n <= 2048) || e != api.OK && e != api.ErrProg {
			t.Errorf("Make(%s) of %d: %v", told(x), n, e)
		}
	}
	if slices.Min(count[:]) < 100 {
		t.Errorf("drawn: %v", count)
	}
}

func TestResThatMayNotBe(t *testing.T) { // 11.1: ErrArg, also ahead of ErrProg
	a := of('a')
	deep, many := a, a
	for range 128 {
		deep = all(deep)
	}
	for range 127 {
		many = all(many, many)
	}
	great := rep(64, 64, rep(64, 64, a))
	itself := make([]api.Re, 1)
	itself[0] = rep(1, -1, a)
	itself[0].L = itself
	twice := make([]api.Re, 2)
	twice[0], twice[1] = all(), one()
	twice[0].L, twice[1].L = twice, twice
	bad := map[string]api.Re{
		"the plain one": {}, "Kind -1": {Kind: -1}, "Kind 5": {Kind: 5}, "the greatest Kind": {Kind: math.MaxInt}, "the least Kind": {Kind: math.MinInt},
		"a byte with members": {Kind: 1, Set: a.Set, L: []api.Re{a}}, "a byte with a Min": {Kind: 1, Min: 1}, "a byte with a Max": {Kind: 1, Max: -1},
		"all with a Set": {Kind: 2, Set: a.Set}, "one with a Set": {Kind: 3, Set: a.Set}, "times with a Set": {Kind: 4, Set: a.Set, L: []api.Re{a}},
		"all with a Max": {Kind: 2, Max: 1}, "one with a Min": {Kind: 3, Min: 1}, "times of none": {Kind: 4}, "times of two": {Kind: 4, L: []api.Re{a, a}},
		"65 times": rep(65, 65, a), "up to 65": rep(0, 65, a), "from 65": rep(65, -1, a), "from -1": rep(-1, 1, a), "from -1 without an end": rep(-1, -1, a), "to -2": rep(0, -2, a), "2 to 1": rep(2, 1, a), "1 to 0": rep(1, 0, a), "the greatest times": rep(math.MaxInt, math.MaxInt, a), "the least times": rep(math.MinInt, math.MinInt, a),
		"too deep": deep, "too many": many, "too many in one": all(slices.Repeat([]api.Re{a}, 4096)...), "within itself": itself[0], "within each other": twice[1],
		"behind what is too great": all(great, api.Re{}), "ahead of what is too great": all(api.Re{}, great), "0 times what may not be": rep(0, 0, api.Re{}),
	}
	for what, r := range bad {
		for _, x := range []api.Re{r, all(a, r), one(r, a), rep(0, 1, r), all(great, r)} {
			mustRefuse(t, what, x, api.ErrArg)
			if n, e := Count(x); n != 0 || e != api.ErrArg {
				t.Errorf("Count(%s): %d, %v", what, n, e)
			}
		}
	}
}

func TestMadeIsTheCallersOwn(t *testing.T) { // rule 4
	shared := []api.Re{of('a'), rep(0, 2, of('b')), one(of('c'), of('d'))}
	r := all(all(shared...), rep(1, -1, one(shared...)))
	elder := told(r)
	want := made(r)
	first := mustMake(t, elder, r)
	for k := range first {
		first[k] = api.Inst{Op: 9, X: -1, Y: -1, Set: every().Set}
	}
	first = append(first, api.Inst{})
	second := mustMake(t, elder, r)
	if told(r) != elder {
		t.Errorf("%s is changed: %s", elder, told(r))
	}
	shared[0], shared[1] = all(), one()
	if !slices.Equal(second, want) {
		t.Errorf("%v hangs on what was handed in, want %v", second, want)
	}
}
