package sym

import (
	"bytes"
	"math"
	"math/rand"
	"slices"
	"strings"
	"testing"

	"tidepole/api"
)

// tooLate is ten bytes and one that are no number, though they have a last one.
var tooLate = append(bytes.Repeat([]byte{0x80}, 10), 1)

// roads are tables whose bytes are cut, and changed.
func roads() [][]string {
	long := strings.Repeat("l", 200)
	return [][]string{
		{},
		{""},
		{"a"},
		{"", "a"},
		{"api", "jo", "job"},
		{"a", "aa", "aaa", "ab", "b"},
		{"\x00", "\x00\x00", "\x80", "\xff", "\xff\xff"},
		{"", long, long + "a", long + "b", strings.Repeat("m", 256)},
	}
}

func TestReadByHand(t *testing.T) { // 15.2
	b := []byte{3, 0, 3, 'a', 'p', 'i', 0, 2, 'j', 'o', 2, 1, 'b'}
	x, at, e := Read(b, 0)
	if e != api.OK || at != 13 {
		t.Fatalf("%d, %v", at, e)
	}
	mustHave(t, x, wordsOf("api", "jo", "job"))
	x, at, e = Read([]byte{0}, 0)
	if e != api.OK || at != 1 {
		t.Fatalf("of no texts: %d, %v", at, e)
	}
	mustHave(t, x, words{})
	x, at, e = Read([]byte{1, 0, 0}, 0)
	if e != api.OK || at != 3 {
		t.Fatalf("of the empty text: %d, %v", at, e)
	}
	mustHave(t, x, wordsOf(""))
}

func TestReadWrongBytes(t *testing.T) { // 15.2: what is no table's
	v := strings.Repeat("v", 256)
	for _, c := range []struct {
		what string
		b    []byte
		want api.Errno
	}{
		{"falls", rows(2, row(0, "b"), row(0, "a")), api.ErrSym},
		{"is the last one again", rows(2, row(0, "a"), row(1, "")), api.ErrSym},
		{"is the last one again, told whole", rows(2, row(0, "a"), row(0, "a")), api.ErrSym},
		{"the empty text again", rows(2, row(0, ""), row(0, "")), api.ErrSym},
		{"the empty text behind another one", rows(2, row(0, "a"), row(0, "")), api.ErrSym},
		{"the beginning of the last one", rows(2, row(0, "ab"), row(1, "")), api.ErrSym},
		{"falls behind what is common", rows(2, row(0, "ab"), row(1, "a")), api.ErrSym},
		{"has more in common than said", rows(2, row(0, "a"), row(0, "ab")), api.ErrSym},
		{"has more in common than said, a little", rows(2, row(0, "abc"), row(1, "bd")), api.ErrSym},
		{"has all in common, but one is said", rows(2, row(0, "abc"), row(2, "cd")), api.ErrSym},
		{"has fewer in common than said", rows(2, row(0, "a"), row(2, "b")), api.ErrSym},
		{"has fewer in common than said, and nothing behind", rows(2, row(0, "a"), row(2, "")), api.ErrSym},
		{"has far fewer in common than said", rows(2, row(0, "a"), row(math.MaxUint64, "b")), api.ErrSym},
		{"the sign bit", rows(2, row(0, "a"), row(1<<63, "b")), api.ErrSym},
		{"the first one with one in common", rows(1, row(1, "a")), api.ErrSym},
		{"the first one with one in common, and nothing behind", rows(1, row(1, "")), api.ErrSym},
		{"the first one with all in common", rows(1, row(math.MaxUint64, "a")), api.ErrSym},
		{"behind the empty text, one in common", rows(2, row(0, ""), row(1, "a")), api.ErrSym},
		{"just MaxValue bytes", rows(1, row(0, v)), api.OK},
		{"one more", rows(1, row(0, v+"v")), api.ErrSym},
		{"just MaxValue bytes, two parts", rows(2, row(0, v[1:]), row(255, "v")), api.OK},
		{"one more, two parts", rows(2, row(0, v), row(256, "v")), api.ErrSym},
		{"two more, two parts", rows(2, row(0, v[1:]), row(255, "vvv")), api.ErrSym},
		{"MaxBytes bytes", rows(1, row(0, strings.Repeat("v", 65536))), api.ErrSym},
		{"the first of three falls", rows(3, row(0, "b"), row(0, "a"), row(0, "c")), api.ErrSym},
		{"the last of three falls", rows(3, row(0, "a"), row(0, "c"), row(0, "b")), api.ErrSym},
		{"rises again, but not above all", rows(4, row(0, "m"), row(0, "z"), row(0, "a"), row(0, "b")), api.ErrSym},
	} {
		for _, behind := range [][]byte{nil, {9}, {0x80}} {
			for _, ahead := range [][]byte{nil, {7}, {0xff, 0x80}} {
				x, at, e := Read(slices.Concat(ahead, c.b, behind), len(ahead))
				if c.want == api.OK && e == api.OK && at == len(ahead)+len(c.b) {
					continue
				}
				mustRefuse(t, c.what, x, at, e, c.want)
			}
		}
		mustReadAs(t, c.b, 0)
	}
}

func TestReadShort(t *testing.T) { // 15.2: bytes that end too early, at each place
	for _, l := range roads() {
		b := told(l)
		for size := range b {
			x, at, e := Read(b[:size], 0)
			mustRefuse(t, "cut", x, at, e, api.ErrShort)
			mustReadAs(t, bytes.Clone(b[:size]), 0)
			x, at, e = Read(append([]byte{7, 0x80}, b[:size]...), 2)
			mustRefuse(t, "cut, behind others", x, at, e, api.ErrShort)
		}
	}
	for _, b := range [][]byte{nil, {}, {1}, {0x80}, {1, 0}, {1, 0, 1}, {2, 0, 0}, rows(math.MaxUint64), rows(math.MaxUint64, row(0, "a")), rows(1<<63, row(0, "a"), row(0, "b"))} {
		x, at, e := Read(b, 0)
		mustRefuse(t, "short", x, at, e, api.ErrShort)
	}
}

func TestReadPlaces(t *testing.T) { // 15.2: a place below 0, and behind the end; bytes ahead of the table, and behind it
	for _, l := range roads() {
		b := told(l)
		for _, at := range []int{-1, -2, math.MinInt, len(b) + 1, len(b) + 2, math.MaxInt} {
			x, end, e := Read(b, at)
			mustRefuse(t, "a place that may not be", x, end, e, api.ErrArg)
		}
		x, end, e := Read(b, len(b))
		mustRefuse(t, "the end", x, end, e, api.ErrShort)
		for ahead := range 4 {
			for behind := range 4 {
				all := slices.Concat(bytes.Repeat([]byte{0x80}, ahead), b, bytes.Repeat([]byte{0xff}, behind))
				x, end, e := Read(all, ahead)
				if e != api.OK || end != ahead+len(b) {
					t.Fatalf("Read(%v, %d): %d, %v", all, ahead, end, e)
				}
				mustHave(t, x, wordsOf(l...))
			}
		}
		for at := range len(b) + 3 { // whatever stands there
			mustReadAs(t, bytes.Clone(b), at-1)
		}
	}
	two := append(told([]string{"a", "b"}), told([]string{"a", "ab"})...) // one table behind the other
	x, at, e := Read(two, 0)
	if e != api.OK || at != 7 {
		t.Fatalf("%d, %v", at, e)
	}
	mustHave(t, x, wordsOf("a", "b"))
	x, at, e = Read(two, at)
	if e != api.OK || at != len(two) {
		t.Fatalf("%d, %v", at, e)
	}
	mustHave(t, x, wordsOf("a", "ab"))
	x, at, e = Read(nil, 1)
	mustRefuse(t, "behind the end of nothing", x, at, e, api.ErrArg)
}

func TestReadWrongNumbers(t *testing.T) { // 15.2: a number that is not read, in each place
	for _, wrong := range [][]byte{{0x80, 0}, {0x81, 0}, {0xff, 0xff, 0}, append(bytes.Repeat([]byte{0xff}, 9), 2), tooLate} {
		for what, b := range map[string][]byte{
			"how many texts":              slices.Concat(wrong, row(0, "a")),
			"how many in common, first":   slices.Concat([]byte{2}, wrong, []byte{1, 'a'}, row(0, "b")),
			"how many behind, first":      slices.Concat([]byte{2, 0}, wrong, []byte("a"), row(0, "b")),
			"how many in common, second":  slices.Concat([]byte{2}, row(0, "a"), wrong, []byte{1, 'b'}),
			"how many behind, second":     slices.Concat([]byte{2}, row(0, "a"), []byte{0}, wrong, []byte("b")),
			"behind one that falls":       slices.Concat([]byte{3}, row(0, "b"), row(0, "a"), wrong, []byte{1, 'c'}),
			"behind one that is too long": slices.Concat([]byte{2}, row(0, strings.Repeat("a", 257)), wrong, []byte{1, 'c'}),
		} {
			x, at, e := Read(b, 0)
			mustRefuse(t, what, x, at, e, api.ErrVint)
			mustReadAs(t, b, 0)
		}
	}
}

func TestReadTooMany(t *testing.T) { // 15.2: more texts than MaxItems
	all := wordsOf(many(api.MaxItems+1, 1)...).texts()
	mustReadAs(t, told(all[:api.MaxItems]), 0)
	if _, at, e := Read(told(all[:api.MaxItems]), 0); e != api.OK || at != len(told(all[:api.MaxItems])) {
		t.Errorf("just MaxItems: %d, %v", at, e)
	}
	x, at, e := Read(told(all), 0)
	mustRefuse(t, "one more than MaxItems", x, at, e, api.ErrSym)
	same := bytes.Repeat(row(0, ""), 100000)
	x, at, e = Read(append(rows(100000), same...), 0)
	mustRefuse(t, "far more", x, at, e, api.ErrSym)
	x, at, e = Read(append(rows(100001), same...), 0)
	mustRefuse(t, "far more, one of them missing", x, at, e, api.ErrShort)
	x, at, e = Read(append(rows(math.MaxUint64), same...), 0)
	mustRefuse(t, "more than can be", x, at, e, api.ErrShort)
	x, at, e = Read(slices.Concat(rows(100001), same, []byte{0x80, 0, 0}), 0)
	mustRefuse(t, "far more, one of them no number", x, at, e, api.ErrVint)
}

func TestReadErrorsInTheirOrder(t *testing.T) { // 15.2, P1: vint's errors are named first, from the front
	falls := slices.Concat(row(0, "b"), row(0, "a"))
	tooLong := row(0, strings.Repeat("v", 65537))
	for _, c := range []struct {
		what string
		b    []byte
		at   int
		want api.Errno
	}{
		{"falls, then ends too early", slices.Concat([]byte{3}, falls), 0, api.ErrShort},
		{"falls, then ends within a text", slices.Concat([]byte{3}, falls, []byte{0, 2, 'c'}), 0, api.ErrShort},
		{"falls, then no number", slices.Concat([]byte{3}, falls, []byte{0x80, 0}), 0, api.ErrVint},
		{"falls, and a place that may not be", slices.Concat([]byte{2}, falls), -1, api.ErrArg},
		{"more in common than there is, then ends", rows(2, row(9, "a")), 0, api.ErrShort},
		{"too long, then ends", rows(2, row(0, strings.Repeat("v", 257))), 0, api.ErrShort},
		{"no number, then ends", []byte{2, 0x80, 0}, 0, api.ErrVint},
		{"ends, as the last byte of a number is missing", []byte{2, 0, 1, 'a', 0x80}, 0, api.ErrShort},
		{"more than MaxBytes, all there", rows(1, tooLong), 0, api.ErrLong},
		{"more than MaxBytes, not there", rows(1, tooLong)[:9], 0, api.ErrLong},
		{"more than MaxBytes, behind what falls", slices.Concat([]byte{3}, falls, tooLong), 0, api.ErrLong},
		{"more than MaxBytes, then no number", slices.Concat([]byte{2}, tooLong, []byte{0x80, 0}), 0, api.ErrLong},
		{"no number, then more than MaxBytes", slices.Concat([]byte{2, 0x80, 0, 0}, tooLong), 0, api.ErrVint},
		{"far more than MaxBytes", []byte{1, 0, 0xff, 0xff, 0xff, 0xff, 0xff, 0xff, 0xff, 0xff, 0xff, 1}, 0, api.ErrLong},
		{"too many, then ends", rows(4097, row(0, "a")), 0, api.ErrShort},
	} {
		x, at, e := Read(c.b, c.at)
		mustRefuse(t, c.what, x, at, e, c.want)
		mustReadAs(t, c.b, c.at)
	}
}

func TestReadAllShortBytes(t *testing.T) { // 15.2, 15.3: all bytes of few kinds, up to eight of them
	kinds := []byte{0, 1, 2, 3, 0x80}
	for size := range 9 {
		b := make([]byte, size)
		var all func(at int)
		all = func(at int) {
			if at == size {
				mustReadAs(t, b, 0)
				return
			}
			for _, x := range kinds {
				b[at] = x
				all(at + 1)
			}
		}
		all(0)
	}
}

func TestReadChangedBytes(t *testing.T) { // 15.2, 15.3: a table's bytes, changed here and there
	r := rand.New(rand.NewSource(153))
	for range 60000 {
		b := told(wordsOf(drawnTexts(r, r.Intn(6), 4)...).texts())
		for range 1 + r.Intn(3) {
			at := r.Intn(len(b))
			switch r.Intn(4) {
			case 0:
				b[at] = byte(r.Intn(256))
			case 1:
				b[at] = byte(r.Intn(5))
			case 2:
				b = slices.Delete(b, at, at+1)
			case 3:
				b = slices.Insert(b, at, byte(r.Intn(4)))
			}
			if len(b) == 0 {
				break
			}
		}
		mustReadAs(t, b, 0)
	}
}

func TestReadBack(t *testing.T) { // 15.3: bytes are read back; what is read has, again, those bytes
	r := rand.New(rand.NewSource(154))
	for range 2000 {
		x := mustMake(t, drawnTexts(r, r.Intn(50), 1+r.Intn(20))...)
		b := x.Bytes()
		y, at, e := Read(b, 0)
		if e != api.OK || at != len(b) || !bytes.Equal(y.Bytes(), b) {
			t.Fatalf("%v: %d, %v, %v", b, at, e, y.Bytes())
		}
		if !slices.Equal(x.From(""), y.From("")) {
			t.Fatalf("%q, read back %q", x.From(""), y.From(""))
		}
	}
}

func TestOnlyOneTelling(t *testing.T) { // 15.2, 15.3: two texts are told in one way alone
	r := rand.New(rand.NewSource(155))
	for range 20000 {
		a, b := drawnText(r, 4), drawnText(r, 4)
		right := 0
		for same := range asMany(a, b) + 1 {
			bs := rows(2, row(0, a), row(uint64(same), b[same:]))
			_, _, e := Read(bs, 0)
			if e == api.OK {
				right++
			}
			if (e == api.OK) != (a < b && same == asMany(a, b)) {
				t.Fatalf("%q, %q with %d in common: %v", a, b, same, e)
			}
			mustReadAs(t, bs, 0)
		}
		if (right == 1) != (a < b) {
			t.Fatalf("%q, %q: told in %d ways", a, b, right)
		}
	}
}
