package sym

import (
	"math"
	"math/rand"
	"reflect"
	"slices"
	"strconv"
	"strings"
	"testing"

	"tidepole/api"
)

// many is n texts that differ, each of size bytes at least, not in their order.
func many(n, size int) []string {
	var l []string
	for k := range n {
		s := strconv.Itoa(k * 7919 % 100003)
		l = append(l, s+strings.Repeat(".", max(size-len(s), 0)))
	}
	return l
}

func TestTablesByHand(t *testing.T) { // 15.1
	for _, c := range []struct {
		of, want []string
		bytes    string
	}{
		{nil, nil, "\x00"},
		{[]string{}, nil, "\x00"},
		{[]string{""}, []string{""}, "\x01\x00\x00"},
		{[]string{"", "", ""}, []string{""}, "\x01\x00\x00"},
		{[]string{"a"}, []string{"a"}, "\x01\x00\x01a"},
		{[]string{"a", ""}, []string{"", "a"}, "\x02\x00\x00\x00\x01a"},
		{[]string{"job", "api", "jo"}, []string{"api", "jo", "job"}, "\x03\x00\x03api\x00\x02jo\x02\x01b"},
		{[]string{"jo", "job", "api", "jo", "job"}, []string{"api", "jo", "job"}, "\x03\x00\x03api\x00\x02jo\x02\x01b"},
		{[]string{"b", "a"}, []string{"a", "b"}, "\x02\x00\x01a\x00\x01b"},
		{[]string{"abd", "abc", "ab", "b"}, []string{"ab", "abc", "abd", "b"}, "\x04\x00\x02ab\x02\x01c\x02\x01d\x00\x01b"},
		{[]string{"\xff", "\x00", "\x80", "\x7f", "A", "a"}, []string{"\x00", "A", "a", "\x7f", "\x80", "\xff"}, "\x06\x00\x01\x00\x00\x01A\x00\x01a\x00\x01\x7f\x00\x01\x80\x00\x01\xff"},
		{[]string{"è", "é", "\xc3"}, []string{"\xc3", "è", "é"}, "\x03\x00\x01\xc3\x01\x01\xa8\x01\x01\xa9"}, // bytes are counted, not letters
		{[]string{"a\x00", "a"}, []string{"a", "a\x00"}, "\x02\x00\x01a\x01\x01\x00"},
	} {
		x := mustMake(t, c.of...)
		mustHave(t, x, wordsOf(c.want...))
		if got := string(x.Bytes()); got != c.bytes {
			t.Errorf("bytes of %q: %q, want %q", c.of, got, c.bytes)
		}
	}
}

func TestLongCommonBytes(t *testing.T) { // 15.1: counts of more than one byte
	long := strings.Repeat("l", 200)
	x := mustMake(t, long+"b", long+"a", long)
	want := "\x03\x00\xc8\x01" + long + "\xc8\x01\x01a" + "\xc8\x01\x01b"
	if got := string(x.Bytes()); got != want {
		t.Errorf("%q, want %q", got, want)
	}
	mustHave(t, x, wordsOf(long, long+"a", long+"b"))
}

func TestNumberOfTexts(t *testing.T) { // 15.1: just MaxItems, one more, and more that are, each once, at most so many
	all := many(api.MaxItems+1, 1)
	mustHave(t, mustMake(t, all[:api.MaxItems]...), wordsOf(all[:api.MaxItems]...))
	mustHave(t, mustMake(t, all[:api.MaxItems-1]...), wordsOf(all[:api.MaxItems-1]...))
	x, e := Make(all...)
	mustRefuse(t, "one more than MaxItems", x, 0, e, api.ErrLong)
	x, e = Make(append(slices.Clone(all), all...)...)
	mustRefuse(t, "one more than MaxItems, twice", x, 0, e, api.ErrLong)
	often := slices.Repeat(all[:api.MaxItems], 3)
	mustHave(t, mustMake(t, often...), wordsOf(all[:api.MaxItems]...))
	mustHave(t, mustMake(t, slices.Repeat([]string{"x"}, 5*api.MaxItems)...), wordsOf("x"))
	mustHave(t, mustMake(t, append(slices.Repeat([]string{""}, api.MaxItems), "b", "a")...), wordsOf("", "a", "b"))
}

func TestSizeOfTexts(t *testing.T) { // 15.1: MaxValue bytes, and one more
	long := strings.Repeat("v", api.MaxValue)
	mustHave(t, mustMake(t, long), wordsOf(long))
	mustHave(t, mustMake(t, "", long, long[1:], "w"), wordsOf("", long, long[1:], "w"))
	for _, l := range [][]string{{long + "v"}, {"a", long + "v"}, {long + "v", "a"}, {"a", long + "v", "b"}, {"", strings.Repeat("v", 1<<20), ""}, {strings.Repeat("\x00", api.MaxValue+1)}, {long + "v", long + "v"}} {
		x, e := Make(l...)
		mustRefuse(t, "a text that is too long", x, 0, e, api.ErrLong)
	}
	letters := strings.Repeat("é", api.MaxValue/2) // bytes are counted, not letters
	mustHave(t, mustMake(t, letters), wordsOf(letters))
	x, e := Make(letters + "é")
	mustRefuse(t, "MaxValue bytes and two, but fewer letters", x, 0, e, api.ErrLong)
}

func TestGreatestTable(t *testing.T) { // 15.1, 15.2, P1: MaxItems texts of MaxValue bytes
	all := many(api.MaxItems, api.MaxValue)
	x := mustMake(t, all...)
	mustHave(t, x, wordsOf(all...))
	b := x.Bytes()
	y, at, e := Read(b, 0)
	if e != api.OK || at != len(b) || !reflect.DeepEqual(x, y) {
		t.Errorf("read back: %d, %v", at, e)
	}
	x, e = Make(append(all, "one more")...)
	mustRefuse(t, "one more", x, 0, e, api.ErrLong)
}

func TestGetByHand(t *testing.T) { // 15.1: the first number, the last one, the one behind it, one below 0
	x := mustMake(t, "c", "a", "b")
	mustGet(t, x, 0, "a", api.OK)
	mustGet(t, x, 1, "b", api.OK)
	mustGet(t, x, 2, "c", api.OK)
	for _, n := range []int{3, 4, -1, -2, -3, math.MaxInt, math.MinInt, 1 << 32, 1 << 62, -1 << 32} {
		mustGet(t, x, n, "", api.ErrNone)
	}
	none := mustMake(t)
	for _, n := range []int{0, 1, -1, math.MaxInt, math.MinInt} {
		mustGet(t, none, n, "", api.ErrNone)
	}
}

func TestFindByHand(t *testing.T) { // 15.1: a text that is there, one ahead of all, between two, behind all
	x := mustMake(t, "b", "d", "da", "f")
	for _, c := range []struct {
		s  string
		n  int
		ok bool
	}{
		{"", 0, false}, {"a", 0, false}, {"aaaaaaaa", 0, false}, {"B", 0, false}, {"\x00", 0, false},
		{"b", 0, true}, {"b\x00", 1, false}, {"ba", 1, false}, {"c", 1, false}, {"czzz", 1, false},
		{"d", 1, true}, {"d\x00", 2, false}, {"da", 2, true}, {"da\x00", 3, false}, {"db", 3, false}, {"e", 3, false},
		{"f", 3, true}, {"f\x00", 4, false}, {"g", 4, false}, {"\xff", 4, false}, {strings.Repeat("z", 1<<16), 4, false},
	} {
		mustFind(t, x, c.s, c.n, c.ok)
	}
	mustFind(t, mustMake(t), "", 0, false)
	mustFind(t, mustMake(t), "a", 0, false)
	mustFind(t, mustMake(t, ""), "", 0, true)
	mustFind(t, mustMake(t, ""), "a", 1, false)
}

func TestFromByHand(t *testing.T) { // 15.1: the empty text, a whole text, one with which none begins
	l := []string{"", "a", "ab", "abc", "abd", "ac", "b", "ba", "\xff", "\xff\xff"}
	x := mustMake(t, l...)
	for _, c := range []struct {
		prefix string
		want   []string
	}{
		{"", l},
		{"a", l[1:6]},
		{"ab", l[2:5]},
		{"abc", l[3:4]},
		{"abd", l[4:5]},
		{"abcd", nil}, // longer than the text that it begins as
		{"abe", nil},
		{"aba", nil},
		{"ac", l[5:6]},
		{"ad", nil},
		{"b", l[6:8]},
		{"ba", l[7:8]},
		{"c", nil},
		{"A", nil},
		{"\x00", nil},
		{"\xff", l[8:]},
		{"\xff\xff", l[9:]},
		{"\xff\xff\xff", nil},
		{strings.Repeat("a", 1<<16), nil},
	} {
		for range 2 {
			got := x.From(c.prefix)
			if !sameTexts(got, c.want) {
				t.Errorf("From(%q): %q, want %q", c.prefix, got, c.want)
			}
			spoilTexts(got)
			_ = append(got, "behind")
			mustHave(t, x, wordsOf(l...))
		}
	}
	if l := mustMake(t).From(""); len(l) != 0 {
		t.Errorf("From of no texts: %q", l)
	}
}

func TestAllByHand(t *testing.T) { // 15.1: to its end, broken off, again, within itself
	x := mustMake(t, "c", "a", "b")
	all := x.All()
	for range 3 {
		var seen []string
		for n, s := range all {
			seen = append(seen, strconv.Itoa(n)+s)
		}
		if got := strings.Join(seen, " "); got != "0a 1b 2c" {
			t.Errorf("all: %s", got)
		}
		for n, s := range all {
			if n != 0 || s != "a" {
				t.Errorf("first: %d %s", n, s)
			}
			break
		}
	}
	var seen []string
	for _, s := range all {
		for _, y := range all {
			if seen = append(seen, s+y); y == s {
				break
			}
		}
	}
	if got := strings.Join(seen, " "); got != "aa ba bb ca cb cc" {
		t.Errorf("one within the other: %s", got)
	}
	for n, s := range mustMake(t).All() {
		t.Errorf("of no texts: %d %q", n, s)
	}
}

func TestDrawnTables(t *testing.T) { // 15.1, 15.3, 15.4: against the words
	r := rand.New(rand.NewSource(150))
	for range 3000 {
		l := drawnTexts(r, r.Intn(30), 1+r.Intn(8))
		w := wordsOf(l...)
		x := mustMake(t, l...)
		mustHave(t, x, w)
		for range 20 {
			s := drawnText(r, 6)
			mustFind(t, x, s, w.ahead(s), w[s])
			if got := x.From(s); !sameTexts(got, w.from(s)) {
				t.Fatalf("From(%q) of %q: %q", s, l, got)
			}
		}
		for _, s := range someTexts() {
			mustFind(t, x, s, w.ahead(s), w[s])
			if got := x.From(s); !sameTexts(got, w.from(s)) {
				t.Fatalf("From(%q) of %q: %q", s, l, got)
			}
		}
		mustReadAs(t, x.Bytes(), 0)
	}
}

func TestNumbersRise(t *testing.T) { // 15.4: Find of Get leads back, numbers rise with texts
	r := rand.New(rand.NewSource(151))
	for range 300 {
		x := mustMake(t, drawnTexts(r, r.Intn(200), 6)...)
		last := ""
		for n := range x.Len() {
			s, e := x.Get(n)
			if e != api.OK || n > 0 && s <= last {
				t.Fatalf("Get(%d): %q, %v, behind %q", n, s, e, last)
			}
			mustFind(t, x, s, n, true)
			last = s
		}
		for range 50 {
			a, b := drawnText(r, 6), drawnText(r, 6)
			n, _ := x.Find(a)
			m, _ := x.Find(b)
			if a <= b && n > m || a >= b && n < m {
				t.Fatalf("Find(%q): %d, Find(%q): %d", a, n, b, m)
			}
		}
	}
}

func TestSameTables(t *testing.T) { // 15.5: in whatever order, however often
	r := rand.New(rand.NewSource(152))
	for range 500 {
		l := drawnTexts(r, r.Intn(40), 5)
		x := mustMake(t, l...)
		often := slices.Clone(l)
		for range r.Intn(20) {
			if len(l) > 0 {
				often = append(often, l[r.Intn(len(l))])
			}
		}
		rising, falling, drawn := slices.Clone(often), slices.Clone(often), slices.Clone(often)
		slices.Sort(rising)
		slices.Sort(falling)
		slices.Reverse(falling)
		r.Shuffle(len(drawn), func(i, k int) { drawn[i], drawn[k] = drawn[k], drawn[i] })
		for _, order := range [][]string{rising, falling, drawn, x.From("")} {
			y := mustMake(t, order...)
			if !reflect.DeepEqual(x, y) || !slices.Equal(x.Bytes(), y.Bytes()) {
				t.Fatalf("of %q: %v, of %q: %v", l, x, order, y)
			}
		}
		y, _, e := Read(x.Bytes(), 0)
		if e != api.OK || !reflect.DeepEqual(x, y) {
			t.Fatalf("of %q: %v, read: %v, %v", l, x, y, e)
		}
	}
}

func TestLeftAlone(t *testing.T) { // 15.1, 15.2, rule 4: what is handed in is not changed, and nothing of it is kept
	of := []string{"c", "a", "b", "a", ""}
	l := append(slices.Clone(of), "behind")[:len(of)]
	x := mustMake(t, l...)
	if !slices.Equal(l, of) || l[:len(of)+1][len(of)] != "behind" {
		t.Fatalf("Make changed %q", l)
	}
	spoilTexts(l)
	mustHave(t, x, wordsOf(of...))
	b := told([]string{"a", "ab", "b"})
	y, _, e := Read(b, 0)
	if e != api.OK {
		t.Fatal(e)
	}
	spoil(b)
	mustHave(t, y, wordsOf("a", "ab", "b"))
	z := y // a copy is the same table
	y = x
	mustHave(t, z, wordsOf("a", "ab", "b"))
	mustHave(t, y, wordsOf(of...))
	room := append(x.Bytes(), 9)
	room[0] = 9
	mustHave(t, x, wordsOf(of...))
}

func TestVoidTable(t *testing.T) { // 15.1, P1, rule 2: a table that no call made, with each of its calls
	refused, _ := Make(strings.Repeat("x", api.MaxValue+1))
	unread, _, _ := Read(nil, 0)
	for _, x := range []Table{{}, *new(Table), refused, unread} {
		for range 2 {
			for _, n := range []int{0, 1, -1, math.MaxInt, math.MinInt} {
				mustGet(t, x, n, "", api.ErrNil) // ahead of ErrNone
			}
			for _, s := range someTexts() {
				mustFind(t, x, s, 0, false)
				if l := x.From(s); len(l) != 0 {
					t.Errorf("From(%q): %q", s, l)
				}
			}
			if x.Len() != 0 {
				t.Errorf("Len: %d", x.Len())
			}
			if b := x.Bytes(); len(b) != 0 {
				t.Errorf("Bytes: %v", b)
			}
			for n, s := range x.All() {
				t.Errorf("All: %d %q", n, s)
			}
		}
	}
	none, _, _ := Read([]byte{0}, 0)
	for _, x := range []Table{mustMake(t), none} { // one without texts is not none
		mustHave(t, x, words{})
		mustGet(t, x, 0, "", api.ErrNone)
	}
}
