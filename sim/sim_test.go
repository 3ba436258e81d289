package sim

import (
	"math"
	"math/rand"
	"slices"
	"strings"
	"testing"

	"tidepole/api"
)

// mustMatch holds what Match says against the words.
func mustMatch(t *testing.T, l []api.Inst, s string) bool {
	t.Helper()
	elder := slices.Clone(l)
	want := accepted(l, s)
	for range 2 { // P2: the second time as the first
		if got, e := Match(l, s); got != want || e != api.OK {
			t.Fatalf("Match(%s, %q): %v, %v, want %v", told(l), s, got, e, want)
		}
	}
	if !slices.Equal(l, elder) {
		t.Fatalf("Match(%s, %q) changes its program", told(elder), s)
	}
	return want
}

// mustEnd holds what Ends says against want.
func mustEnd(t *testing.T, l []api.Inst, s string, from int, want ...int) {
	t.Helper()
	elder := slices.Clone(l)
	for range 2 { // what was handed out is changed, and asked again
		got, e := Ends(l, s, from)
		if !slices.Equal(got, want) || e != api.OK {
			t.Fatalf("Ends(%s, %q, %d): %v, %v, want %v", told(l), s, from, got, e, want)
		}
		for k := range got {
			got[k] = -1
		}
	}
	if !slices.Equal(l, elder) {
		t.Fatalf("Ends(%s, %q, %d) changes its program", told(elder), s, from)
	}
}

// mustRefuse holds what Match and Ends say against the error e.
func mustRefuse(t *testing.T, what string, l []api.Inst, s string, from int, e api.Errno) {
	t.Helper()
	if ok, got := Match(l, s); ok || got != e {
		t.Errorf("%s: Match: %v, %v, want %v", what, ok, got, e)
	}
	if l, got := Ends(l, s, from); len(l) > 0 || got != e {
		t.Errorf("%s: Ends: %v, %v, want %v", what, l, got, e)
	}
}

// char is an Op 1 of those bytes.
func char(x int, l ...byte) api.Inst { return api.Inst{Op: 1, Set: of(l...), X: x} }

// free is an Op 1 of all bytes.
func free(x int) api.Inst { return api.Inst{Op: 1, Set: every(), X: x} }

func split(x, y int) api.Inst { return api.Inst{Op: 2, X: x, Y: y} }

func end() api.Inst { return api.Inst{Op: 3} }

func jump(x int) api.Inst { return api.Inst{Op: 4, X: x} }

// wrong is programs that may not be.
func wrong() map[string][]api.Inst {
	return map[string][]api.Inst{
		"nil":              nil,
		"none":             {},
		"the plain one":    {{}},
		"one too many":     slices.Repeat([]api.Inst{end()}, api.MaxProg+1),
		"no Op":            {{Op: 5}},
		"X behind all":     {jump(1)},
		"X below all":      {end(), char(-1, 'a')},
		"Y behind all":     {split(0, 2), end()},
		"Y below all":      {split(0, -1), end()},
		"a far X":          {free(math.MaxInt)},
		"a far Y":          {split(0, math.MinInt)},
		"an end with X":    {{Op: 3, X: 1}, end()},
		"an end with Y":    {{Op: 3, Y: 1}, end()},
		"a byte with Y":    {{Op: 1, Y: 1}, end()},
		"a jump with Y":    {{Op: 4, Y: 1}, end()},
		"an end with Set":  {{Op: 3, Set: of('a')}},
		"a jump with Set":  {{Op: 4, Set: of('a')}},
		"a split with Set": {{Op: 2, Set: of('a')}},
		"where none comes": {end(), {Op: 9}},
	}
}

// right is programs that may be, an edge each.
func right() map[string][]api.Inst {
	return map[string][]api.Inst{
		"an end":                       {end()},
		"a byte to itself":             {char(0, 'a')},
		"no byte":                      {char(0)},
		"any byte to itself":           {free(0)},
		"a jump to itself":             {jump(0)},
		"a split to itself":            {split(0, 0)},
		"a split to itself, or on":     {split(0, 1), end()},
		"a split on, or to itself":     {split(1, 0), end()},
		"a jump on":                    {jump(1), end()},
		"a ring of jumps":              {jump(1), jump(2), jump(0), end()},
		"a ring of splits":             {split(1, 2), split(2, 0), split(0, 1), end()},
		"a ring with an end":           {split(1, 2), split(2, 0), split(0, 3), end()},
		"X as Y":                       {split(1, 1), char(2, 'a'), end()},
		"two ends":                     {split(1, 2), end(), char(3, 'a'), end()},
		"two ends at once":             {split(1, 2), end(), end()},
		"no end":                       {char(1, 'a'), char(0, 'b')},
		"a byte of none":               {char(1), end()},
		"any byte":                     {free(1), end()},
		"0 and 255":                    {char(1, 0), char(2, 255), end()},
		"a*":                           {split(1, 2), char(0, 'a'), end()},
		"two ways to one":              {split(1, 2), char(3, 'a'), char(3, 'a', 'b'), end()},
		"an end that is not come to":   {char(0, 'a'), end()},
		"going back":                   {jump(3), end(), char(1, 'a'), split(2, 4), char(3, 'b')},
		"a ring with a byte in it":     {split(2, 1), end(), split(0, 3), char(4, 'a'), jump(2)},
		"set bits at each word's edge": {char(1, 63), char(2, 64), char(3, 127), char(4, 128), char(5, 191), char(6, 192), end()},
	}
}

// texts is all texts of at most n letters.
func texts(letters string, n int) []string {
	out := []string{""}
	for k := 0; k < len(out); k++ {
		if len(out[k]) < n {
			for i := range len(letters) {
				out = append(out, out[k]+letters[i:i+1])
			}
		}
	}
	return out
}

func TestRightPrograms(t *testing.T) { // 12.1: the edges, all short texts, and all places
	for what, l := range right() {
		for _, s := range append(texts("ab\x00\xff", 3), "aaab", "bbba", "abab", "?@\x7f\x80\xbf\xc0") {
			mustMatch(t, l, s)
			for from := range len(s) + 1 {
				mustEnd(t, l, s, from, places(l, s, from)...)
			}
		}
		if t.Failed() {
			t.Fatal(what)
		}
	}
}

func TestAccepted(t *testing.T) { // 12.1, by hand: what the words must come to
	for _, x := range []struct {
		l    []api.Inst
		s    string
		want bool
	}{
		{right()["an end"], "", true}, {right()["an end"], "a", false},
		{right()["a jump to itself"], "", false}, {right()["a split to itself, or on"], "", true},
		{right()["a split on, or to itself"], "", true}, {right()["a ring of jumps"], "", false},
		{right()["a ring with an end"], "", true}, {right()["a ring with an end"], "a", false},
		{right()["X as Y"], "a", true}, {right()["X as Y"], "", false},
		{right()["two ends"], "", true}, {right()["two ends"], "a", true}, {right()["two ends"], "aa", false},
		{right()["no end"], "ab", false}, {right()["no end"], "", false},
		{right()["a byte of none"], "", false}, {right()["a byte of none"], "a", false},
		{right()["any byte"], "\x00", true}, {right()["any byte"], "\xff", true}, {right()["any byte"], "", false},
		{right()["0 and 255"], "\x00\xff", true}, {right()["0 and 255"], "\xff\x00", false},
		{right()["set bits at each word's edge"], "?@\x7f\x80\xbf\xc0", true},
		{right()["a ring with a byte in it"], "aaa", true},
	} {
		if got, e := Match(x.l, x.s); got != x.want || e != api.OK {
			t.Errorf("Match(%s, %q): %v, %v", told(x.l), x.s, got, e)
		}
	}
}

func TestEnds(t *testing.T) { // 12.1: from the front, the end, behind and below; no place, one, all
	star := right()["a*"]
	mustEnd(t, star, "baab", 1, 1, 2, 3)
	mustEnd(t, star, "baab", 0, 0)
	mustEnd(t, star, "baab", 3, 3)
	mustEnd(t, star, "baab", 4, 4)
	mustEnd(t, star, "", 0, 0)
	mustEnd(t, star, "aaaa", 0, 0, 1, 2, 3, 4)
	mustEnd(t, right()["any byte"], "abc", 1, 2)
	mustEnd(t, right()["any byte"], "abc", 3)
	mustEnd(t, right()["no end"], "abab", 0)
	mustEnd(t, right()["two ends"], "aaa", 1, 1, 2)
	mustEnd(t, []api.Inst{split(1, 2), free(0), end()}, "a\x00\xff", 0, 0, 1, 2, 3)
	for _, from := range []int{-1, 5, 6, math.MinInt, math.MaxInt} {
		if got, e := Ends(star, "baab", from); len(got) > 0 || e != api.ErrArg {
			t.Errorf("from %d: %v, %v", from, got, e)
		}
	}
	for _, from := range []int{-1, 1} {
		if got, e := Ends(star, "", from); len(got) > 0 || e != api.ErrArg {
			t.Errorf("of nothing, from %d: %v, %v", from, got, e)
		}
	}
}

func TestLongTexts(t *testing.T) { // 12.1: MaxBytes, and one more
	star := right()["a*"]
	s := strings.Repeat("a", api.MaxBytes)
	if ok, e := Match(star, s); !ok || e != api.OK {
		t.Errorf("MaxBytes: %v, %v", ok, e)
	}
	if ok, e := Match(star, s[1:]+"b"); ok || e != api.OK {
		t.Errorf("MaxBytes, the last one b: %v, %v", ok, e)
	}
	every := make([]int, api.MaxBytes+1)
	for k := range every {
		every[k] = k
	}
	mustEnd(t, star, s, 0, every...)
	mustEnd(t, star, s, api.MaxBytes-1, api.MaxBytes-1, api.MaxBytes)
	mustEnd(t, star, s, api.MaxBytes, api.MaxBytes)
	if got, e := Ends(star, s, api.MaxBytes+1); len(got) > 0 || e != api.ErrArg {
		t.Errorf("behind MaxBytes: %v, %v", got, e)
	}
	for what, l := range right() {
		mustRefuse(t, what, l, s+"a", 0, api.ErrLong)
	}
	if ok, at, e := Full("a*", s); !ok || at != 0 || e != api.OK {
		t.Errorf("Full of MaxBytes: %v, %d, %v", ok, at, e)
	}
	if ok, at, e := Full("a*", s+"a"); ok || at != 0 || e != api.ErrLong {
		t.Errorf("Full of one more: %v, %d, %v", ok, at, e)
	}
}

func TestGreatPrograms(t *testing.T) { // 12.1, 12.2: MaxProg instructions, gone through one by one, back, and at once
	chain := make([]api.Inst, api.MaxProg) // a byte each
	forth := make([]api.Inst, api.MaxProg) // jumps
	back := make([]api.Inst, api.MaxProg)  // jumps to the last one, and from there back to the end at 1
	wide := make([]api.Inst, api.MaxProg)  // splits, all standing at once
	for k := range api.MaxProg {
		chain[k], forth[k], back[k], wide[k] = char(k+1, byte(k)), jump(k+1), jump(k-1), split(k+1, (k*77)%api.MaxProg)
	}
	last := api.MaxProg - 1
	chain[last], forth[last], wide[last] = end(), end(), char(0, 'a')
	back[0], back[1] = jump(last), end()
	text := make([]byte, last)
	for k := range text {
		text[k] = byte(k)
	}
	for _, x := range []struct {
		l    []api.Inst
		s    string
		want bool
	}{{chain, string(text), true}, {chain, string(text[1:]), false}, {chain, string(text) + "a", false}, {forth, "", true}, {forth, "a", false}, {back, "", true}, {back, "a", false}, {wide, "", false}, {wide, "aaa", false}} {
		if ok, e := Match(x.l, x.s); ok != x.want || e != api.OK {
			t.Errorf("%d bytes: %v, %v, want %v", len(x.s), ok, e, x.want)
		}
	}
	numbers := make([]int, api.MaxProg)
	for k := range numbers {
		numbers[k] = k
	}
	for _, l := range [][]api.Inst{forth, back, wide} {
		r, e := New(l)
		if e != api.OK || !slices.Equal(r.At(), numbers) {
			t.Errorf("New: %v, and stands at %v", e, r.At())
		}
	}
	r, _ := New(wide)
	for range 3 {
		if !r.Feed('a') || !slices.Equal(r.At(), numbers) {
			t.Errorf("behind a byte it stands at %v", r.At())
		}
	}
}

func TestWorstCase(t *testing.T) { // P1: it ends in time, however great all is
	wide := make([]api.Inst, api.MaxProg)
	for k := range wide {
		wide[k] = split((k+1)%1024, k+1024)
		if k >= 1024 {
			wide[k] = free((k * 5) % api.MaxProg)
		}
	}
	wide[api.MaxProg-1] = end()
	if ok, e := Match(wide, strings.Repeat("a", api.MaxBytes/4)); !ok || e != api.OK {
		t.Errorf("%v, %v", ok, e)
	}
}

func TestWrongPrograms(t *testing.T) { // 12.1, 12.2: ErrProg, ahead of all else
	long := strings.Repeat("a", api.MaxBytes+1)
	for what, l := range wrong() {
		for _, s := range []string{"", "a", long} {
			for _, from := range []int{0, -1, len(s), len(s) + 1} {
				mustRefuse(t, what, l, s, from, api.ErrProg)
			}
		}
		if r, e := New(l); r != nil || e != api.ErrProg {
			t.Errorf("New(%s): %v, %v", what, r, e)
		}
	}
	for _, from := range []int{-1, 0, len(long), len(long) + 1} { // ErrLong ahead of ErrArg
		mustRefuse(t, "long", right()["a*"], long, from, api.ErrLong)
	}
}

func TestDrawnPrograms(t *testing.T) { // 12.1, against the words
	r := rand.New(rand.NewSource(121))
	count := [2]int{}
	for range 8000 {
		l := drawnProg(r, 1+r.Intn(16))
		for range 3 {
			s := drawnText(r, "abc\x00\xff", 6)
			if mustMatch(t, l, s) {
				count[0]++
			} else {
				count[1]++
			}
			from := r.Intn(len(s) + 1)
			mustEnd(t, l, s, from, places(l, s, from)...)
		}
	}
	if slices.Min(count[:]) < 1500 {
		t.Errorf("drawn: %v", count)
	}
	for range 20 { // numbers that lie in several words
		l := drawnProg(r, 60+r.Intn(300))
		for range 5 {
			mustMatch(t, l, drawnText(r, "abc\x00\xff", 20))
		}
	}
}
