package sim

import (
	"math/rand"
	"slices"
	"testing"

	"tidepole/api"
)

// mustStand holds all that r tells against the words, and changes what it hands out.
func mustStand(t *testing.T, what string, r *Runner, p *played) {
	t.Helper()
	want := p.stands()
	for range 2 {
		at := r.At()
		if !slices.Equal(at, want) {
			t.Fatalf("%s of %s: stands at %v, want %v", what, told(p.l), at, want)
		}
		at = append(at, 0)
		for k := range at {
			at[k] = -7
		}
		if got := r.Accepts(); got != p.accepts() {
			t.Fatalf("%s of %s: accepts: %v", what, told(p.l), got)
		}
		if got := r.Dead(); got != (len(want) == 0) {
			t.Fatalf("%s of %s: dead: %v", what, told(p.l), got)
		}
	}
}

// mustFeed reads b, and holds what is told against the words.
func mustFeed(t *testing.T, r *Runner, p *played, b byte) {
	t.Helper()
	p.read(b)
	if got := r.Feed(b); got != (len(p.at) > 0) {
		t.Fatalf("Feed(%d) of %s: %v", b, told(p.l), got)
	}
	mustStand(t, "behind a byte", r, p)
}

// mustNew is a runner of l, and what it must be by the words.
func mustNew(t *testing.T, l []api.Inst) (*Runner, *played) {
	t.Helper()
	r, e := New(l)
	if r == nil || e != api.OK {
		t.Fatalf("New(%s): %v, %v", told(l), r, e)
	}
	p := play(l)
	mustStand(t, "the beginning", r, p)
	return r, p
}

func TestRunners(t *testing.T) { // 12.2: the edges, all short texts, and Reset behind each byte
	for _, l := range right() {
		for _, s := range append(texts("ab\x00\xff", 3), "aaaa", "abab", "?@\x7f\x80\xbf\xc0") {
			r, p := mustNew(t, l)
			for k := range len(s) {
				mustFeed(t, r, p, s[k])
			}
			r.Reset()
			mustStand(t, "Reset", r, play(l))
			r.Reset()
			mustStand(t, "Reset twice", r, play(l))
			p = play(l)
			for k := range len(s) { // and it runs as it did
				mustFeed(t, r, p, s[k])
			}
		}
	}
}

func TestWhereItStands(t *testing.T) { // 12.2, by hand
	for _, x := range []struct {
		what string
		s    string
		want []int
	}{
		{"an end", "", []int{0}}, {"an end", "a", nil},
		{"a jump to itself", "", []int{0}}, {"a jump to itself", "a", nil},
		{"a split to itself", "", []int{0}}, {"a ring of jumps", "", []int{0, 1, 2}},
		{"a ring with an end", "", []int{0, 1, 2, 3}}, {"X as Y", "", []int{0, 1}}, {"X as Y", "a", []int{2}},
		{"no byte", "", []int{0}}, {"no byte", "\x00", nil}, {"any byte to itself", "\x00\xff", []int{0}},
		{"two ways to one", "a", []int{3}}, {"going back", "", []int{0, 2, 3, 4}}, {"going back", "b", []int{2, 3, 4}}, {"going back", "ba", []int{1}},
		{"a*", "aa", []int{0, 1, 2}}, {"a*", "ab", nil},
	} {
		r, _ := New(right()[x.what])
		for k := range len(x.s) {
			r.Feed(x.s[k])
		}
		if !slices.Equal(r.At(), x.want) || r.Dead() != (len(x.want) == 0) {
			t.Errorf("%s behind %q: %v, dead: %v", x.what, x.s, r.At(), r.Dead())
		}
	}
}

func TestDeadStaysDead(t *testing.T) { // 12.4
	r, p := mustNew(t, right()["a*"])
	mustFeed(t, r, p, 'a')
	mustFeed(t, r, p, 'b')
	for b := range 256 {
		if r.Feed(byte(b)) || r.Accepts() || !r.Dead() || len(r.At()) > 0 {
			t.Errorf("behind %d: it lives", b)
		}
	}
	r.Reset()
	if r.Dead() || !r.Accepts() || !r.Feed('a') {
		t.Errorf("Reset leaves it dead")
	}
}

func TestDrawnRunners(t *testing.T) { // 12.2, 12.4: however the bytes come, with what is asked between, and behind Resets
	r := rand.New(rand.NewSource(122))
	dead := 0
	for range 3000 {
		l := drawnProg(r, 1+r.Intn(20))
		given := slices.Clone(l)
		one, p := mustNew(t, given)
		for k := range given { // the runner has its own
			given[k] = api.Inst{Op: 9, X: -1, Y: -1}
		}
		other, _ := New(l)
		s := drawnText(r, "abc\x00\xff", 10)
		for range r.Intn(3) {
			one.Feed(byte(r.Intn(256)))
		}
		one.Reset()
		for k := range len(s) {
			other.Feed(s[k]) // nothing is asked between
			mustFeed(t, one, p, s[k])
			ok, e := Match(l, s[:k+1])
			if ok != p.accepts() || e != api.OK {
				t.Fatalf("Match(%s, %q): %v, %v", told(l), s[:k+1], ok, e)
			}
		}
		mustStand(t, "another one", other, p)
		if other.Dead() {
			dead++
		}
	}
	if dead < 300 || dead > 2700 {
		t.Errorf("%d are dead", dead)
	}
}

func TestOwnRunners(t *testing.T) { // two runners of one program, one of which is fed
	l := right()["a*"]
	one, _ := New(l)
	other, _ := New(l)
	one.Feed('b')
	mustStand(t, "the other", other, play(l))
	copied := *other // a copy runs on its own, too
	copied.Feed('b')
	mustStand(t, "what was copied", other, play(l))
	if !copied.Dead() {
		t.Errorf("the copy lives")
	}
}

func TestNoRunner(t *testing.T) { // rule 2: zero values, and nothing is done
	for what, r := range map[string]*Runner{"nil": nil, "plain": {}} {
		for range 2 {
			if r.Feed('a') || r.Accepts() || r.Dead() || len(r.At()) > 0 {
				t.Errorf("%s: %v, %v, %v, %v", what, r.Feed('a'), r.Accepts(), r.Dead(), r.At())
			}
			r.Reset()
		}
	}
}
