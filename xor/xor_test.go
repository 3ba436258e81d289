package xor

import (
	"bytes"
	"fmt"
	"math"
	"math/rand"
	"slices"
	"strings"
	"testing"

	"tidepole/api"
	"tidepole/bits"
)

const all = math.MaxUint64

// digits is x as n digits 0 and 1, the highest first.
func digits(x uint64, n int) string { return fmt.Sprintf("%064b", x)[64-n:] }

// value is the number that digits are.
func value(s string) uint64 {
	x := uint64(0)
	for _, c := range s {
		x = 2*x + uint64(c-'0')
	}
	return x
}

// packed is the bytes of such digits, the last one filled up with noughts.
func packed(s string) []byte {
	b := make([]byte, (len(s)+7)/8)
	for k := range len(s) {
		if s[k] == '1' {
			b[k/8] += 1 << (7 - k%8)
		}
	}
	return b
}

// unpacked is all digits of b.
func unpacked(b []byte) string {
	var s strings.Builder
	for _, x := range b {
		s.WriteString(digits(uint64(x), 8))
	}
	return s.String()
}

// around is how many noughts are ahead of the outermost ones of digits, and how many behind.
func around(s string) (ahead, behind int) {
	return strings.IndexByte(s, '1'), len(s) - 1 - strings.LastIndexByte(s, '1')
}

// wordsPut is a value behind a state, as digits, and the state behind it, as the chapter's words tell it.
func wordsPut(s State, v uint64) (string, State) {
	if s.N == 0 {
		return digits(v, 64), State{1, v, s.Lead, s.Trail}
	}
	x := digits(v^s.Last, 64)
	if v == s.Last {
		return "0", State{s.N + 1, v, s.Lead, s.Trail}
	}
	ahead, behind := around(x)
	if ahead >= s.Lead && behind >= s.Trail {
		return "10" + x[s.Lead:64-s.Trail], State{s.N + 1, v, s.Lead, s.Trail}
	}
	return anewDigits(ahead, x[ahead:64-behind]), State{s.N + 1, v, ahead, behind}
}

// anewDigits is the mark 11, how many noughts are ahead, how many bits are between, less 1, and these.
func anewDigits(ahead int, between string) string {
	return "11" + digits(uint64(ahead), 6) + digits(uint64(len(between)-1), 6) + between
}

// wordsGet is the value that digits begin with, how many of them it has, and whether it is one, as the chapter's words tell it.
func wordsGet(digs string, s State) (v uint64, size int, ok bool) {
	switch {
	case s.N == 0:
		size = 64
	case strings.HasPrefix(digs, "0"):
		size = 1
	case strings.HasPrefix(digs, "10"):
		size = 2 + 64 - s.Lead - s.Trail
	case strings.HasPrefix(digs, "11") && len(digs) >= 14:
		size = 14 + int(value(digs[8:14])) + 1
	default:
		return 0, 0, false
	}
	if len(digs) < size {
		return 0, 0, false
	}
	if s.N == 0 {
		return value(digs[:64]), size, true
	}
	x := strings.Repeat("0", 64)
	switch digs[:min(2, size)] {
	case "10":
		x = strings.Repeat("0", s.Lead) + digs[2:size] + strings.Repeat("0", s.Trail)
		if value(x) == 0 {
			return 0, 0, false
		}
	case "11":
		lead := int(value(digs[2:8]))
		trail := 64 - lead - (size - 14)
		if trail < 0 || digs[14] != '1' || digs[size-1] != '1' || lead >= s.Lead && trail >= s.Trail {
			return 0, 0, false
		}
		x = strings.Repeat("0", lead) + digs[14:size] + strings.Repeat("0", trail)
	}
	return s.Last ^ value(x), size, true
}

// wordsBytes is values as digits.
func wordsBytes(l []uint64) string {
	var b strings.Builder
	s := State{Lead: 64}
	for _, v := range l {
		var d string
		d, s = wordsPut(s, v)
		b.WriteString(d)
	}
	return b.String()
}

// writerOf is a writer that has just these digits.
func writerOf(t *testing.T, s string) *bits.Writer {
	t.Helper()
	w := bits.NewWriter()
	for at := 0; at < len(s); {
		n := min(64, len(s)-at)
		if e := w.Put(value(s[at:at+n]), n); e != api.OK {
			t.Fatal(e)
		}
		at += n
	}
	return w
}

// readerOf is a reader of which just these digits are left: some are ahead of them, so that they end with a byte.
func readerOf(t *testing.T, s string) *bits.Reader {
	t.Helper()
	ahead := (8 - len(s)%8) % 8
	r := bits.NewReader(packed(strings.Repeat("1", ahead) + s))
	if _, e := r.Get(ahead); e != api.OK || r.Left() != len(s) {
		t.Fatal(e, r.Left())
	}
	return r
}

// mustHave holds a writer against the digits it must have.
func mustHave(t *testing.T, what string, w *bits.Writer, want string) {
	t.Helper()
	if !bytes.Equal(w.Bytes(), packed(want)) || w.Len() != len(want) {
		t.Fatalf("%s: %d bits %x, want %d bits %x", what, w.Len(), w.Bytes(), len(want), packed(want))
	}
}

// mustPut holds what a value is written as against the digits and the state it must be.
func mustPut(t *testing.T, s State, v uint64, want string, behind State) {
	t.Helper()
	for _, ahead := range []string{"", "1", "0110101", "1111111110"} {
		w := writerOf(t, ahead)
		got, e := Put(w, s, v)
		if got != behind || e != api.OK {
			t.Fatalf("Put(%v, %x) = %v, %v, want %v", s, v, got, e, behind)
		}
		mustHave(t, fmt.Sprintf("Put(%v, %x)", s, v), w, ahead+want)
	}
}

// mustGet holds what digits are read as against the value and the state they must be; others behind them stay.
func mustGet(t *testing.T, digs string, s State, want uint64, behind State) {
	t.Helper()
	for _, more := range []string{"", "0", "1", "1011"} {
		r := readerOf(t, digs+more)
		got, v, e := Get(r, s)
		if got != behind || v != want || e != api.OK || r.Left() != len(more) {
			t.Fatalf("Get of %s, %v = %v, %x, %v, %d left, want %v, %x, %d left", digs, s, got, v, e, r.Left(), behind, want, len(more))
		}
	}
}

// mustBe holds both ways against each other, and against digits and a state that were told by hand.
func mustBe(t *testing.T, s State, v uint64, digs string, behind State) {
	t.Helper()
	mustPut(t, s, v, digs, behind)
	mustGet(t, digs, s, v, behind)
}

// mustBeByTheWords holds both ways against the chapter's words, and answers how many bits it takes.
func mustBeByTheWords(t *testing.T, s State, v uint64) int {
	t.Helper()
	digs, behind := wordsPut(s, v)
	mustBe(t, s, v, digs, behind)
	return len(digs)
}

// mustRefusePut holds a refused Put against its error; nothing is written.
func mustRefusePut(t *testing.T, digs string, s State, v uint64, want api.Errno) {
	t.Helper()
	w := writerOf(t, digs)
	if got, e := Put(w, s, v); got != (State{}) || e != want {
		t.Fatalf("Put(%v, %x) behind %d bits = %v, %v, want %v", s, v, len(digs), got, e, want)
	}
	mustHave(t, "a refused Put", w, digs)
}

// mustRefuseGet holds a refused Get against its error; the place stays.
func mustRefuseGet(t *testing.T, digs string, s State, want api.Errno) {
	t.Helper()
	r := readerOf(t, digs)
	place := r.At()
	got, v, e := Get(r, s)
	if got != (State{}) || v != 0 || e != want {
		t.Fatalf("Get of %q, %v = %v, %x, %v, want %v", digs, s, got, v, e, want)
	}
	if r.At() != place || r.Left() != len(digs) {
		t.Fatalf("a refused Get of %q: %d left, want %d", digs, r.Left(), len(digs))
	}
	if n := min(len(digs), 64); n > 0 {
		if x, e := r.Get(n); x != value(digs[:n]) || e != api.OK {
			t.Fatalf("behind a refused Get of %q: %x, %v", digs, x, e)
		}
	}
}

// edgeValues are values at the edges.
func edgeValues() []uint64 {
	return []uint64{0, 1, 2, 5, 255, 1 << 31, 1 << 32, 0x3ff0000000000000, api.Stale, 1<<63 - 1, 1 << 63, 1<<63 + 1, all - 1, all}
}

// goodWindows are all windows that may be, and that there is none.
func goodWindows() [][2]int {
	l := [][2]int{{64, 0}}
	for lead := range 64 {
		for trail := range 64 - lead {
			l = append(l, [2]int{lead, trail})
		}
	}
	return l
}

// someWindows are windows of one bit and of 64, at all sides, some between, and none.
func someWindows() [][2]int {
	return [][2]int{{64, 0}, {0, 0}, {63, 0}, {0, 63}, {31, 32}, {1, 0}, {0, 1}, {1, 1}, {12, 40}, {62, 0}, {62, 1}, {0, 62}, {10, 10}}
}

// wrongWindows are such that may not be, each for one or more reasons.
func wrongWindows() [][2]int {
	l := [][2]int{{64, 1}, {64, -1}, {64, 63}, {64, 64}, {63, 1}, {1, 63}, {60, 4}, {32, 32}, {0, 64}, {65, 0}, {65, -1}, {63, 63}, {-1, 65}, {65, -2}}
	for _, x := range []int{-1, -2, -64, 65, 66, 128, 1 << 32, math.MinInt, math.MinInt + 1, math.MaxInt - 1, math.MaxInt} {
		for _, y := range []int{0, 1, 5, 63, 64, -x, x} {
			l = append(l, [2]int{x, y}, [2]int{y, x})
		}
	}
	return l
}

// wrongStates are states that may not be.
func wrongStates() []State {
	var l []State
	for _, n := range []int{-1, -2, api.MaxItems + 1, api.MaxItems + 2, 1 << 32, math.MinInt, math.MaxInt} {
		for _, w := range append(someWindows(), [2]int{64, 1}) {
			l = append(l, State{n, 7, w[0], w[1]})
		}
	}
	for _, w := range wrongWindows() {
		for _, n := range []int{0, 1, 2, api.MaxItems} {
			l = append(l, State{n, 7, w[0], w[1]})
		}
	}
	return l
}

// drawnValue is a value of any bits, or one that differs little from the last one.
func drawnValue(r *rand.Rand, last uint64) uint64 {
	switch r.Intn(6) {
	case 0:
		return last
	case 1:
		return last ^ 1<<r.Intn(64)
	case 2:
		return edgeValues()[r.Intn(len(edgeValues()))]
	case 3:
		return r.Uint64()
	}
	return last ^ r.Uint64()>>r.Intn(64)<<r.Intn(64)
}

// drawnValues are n such values.
func drawnValues(r *rand.Rand, n int) []uint64 {
	var l []uint64
	v := uint64(0)
	for range n {
		v = drawnValue(r, v)
		l = append(l, v)
	}
	return l
}

func TestExample(t *testing.T) { // 7.1, 7.5: the chapter's
	w, s := bits.NewWriter(), Begin()
	for _, c := range []struct {
		v      uint64
		size   int
		behind State
	}{{5, 64, State{1, 5, 64, 0}}, {5, 64 + 1, State{2, 5, 64, 0}}, {4, 64 + 1 + 15, State{3, 4, 63, 0}}} {
		var e api.Errno
		if s, e = Put(w, s, c.v); e != api.OK || s != c.behind || w.Len() != c.size {
			t.Fatalf("Put(%d): %v, %v, %d bits, want %v, %d", c.v, s, e, w.Len(), c.behind, c.size)
		}
	}
	by := digits(5, 64) + "0" + "11" + "111111" + "000000" + "1"
	mustHave(t, "5, 5, 4", w, by)
	want := []byte{0, 0, 0, 0, 0, 0, 0, 5, 0x7f, 0x81}
	if b, e := Bytes(5, 5, 4); e != api.OK || !bytes.Equal(b, want) {
		t.Errorf("Bytes(5, 5, 4) = %x, %v, want %x", b, e, want)
	}
	if l, e := Read(want, 3); e != api.OK || !slices.Equal(l, []uint64{5, 5, 4}) {
		t.Errorf("Read = %v, %v", l, e)
	}
}

func TestBegin(t *testing.T) { // 7.1
	if s := Begin(); s != (State{N: 0, Last: 0, Lead: 64, Trail: 0}) {
		t.Errorf("Begin() = %v", s)
	}
	for _, v := range edgeValues() {
		mustBe(t, Begin(), v, digits(v, 64), State{1, v, 64, 0})
	}
}

func TestFirstValue(t *testing.T) { // 7.1: 64 bits, whatever else a state of none says, and its window stays
	for _, v := range edgeValues() {
		for _, w := range goodWindows() {
			s := State{0, v ^ 9, w[0], w[1]}
			mustBe(t, s, v, digits(v, 64), State{1, v, w[0], w[1]})
		}
	}
}

func TestSecondAndThirdValue(t *testing.T) { // 7.1: by hand
	nought, one := strings.Repeat("0", 61), strings.Repeat("1", 61)
	for _, c := range []struct {
		s      State
		v      uint64
		want   string
		behind State
	}{
		{State{1, 5, 64, 0}, 5, "0", State{2, 5, 64, 0}},
		{State{1, 5, 64, 0}, 4, "11" + "111111" + "000000" + "1", State{2, 4, 63, 0}},
		{State{1, 0, 64, 0}, 1 << 63, "11" + "000000" + "000000" + "1", State{2, 1 << 63, 0, 63}},
		{State{1, 0, 64, 0}, 0xb0, "11" + "111000" + "000011" + "1011", State{2, 0xb0, 56, 4}},
		{State{1, 0, 64, 0}, all, "11" + "000000" + "111111" + "111" + one, State{2, all, 0, 0}},
		{State{1, all, 64, 0}, 0, "11" + "000000" + "111111" + "111" + one, State{2, 0, 0, 0}},
		{State{2, 0xb0, 56, 4}, 0xb0, "0", State{3, 0xb0, 56, 4}},
		{State{2, 0xb0, 56, 4}, 0x20, "10" + "1001", State{3, 0x20, 56, 4}},
		{State{2, 0xb0, 56, 4}, 0xf0, "10" + "0100", State{3, 0xf0, 56, 4}},
		{State{2, 0xb0, 56, 4}, 0x40, "10" + "1111", State{3, 0x40, 56, 4}},
		{State{2, 0xb0, 56, 4}, 0xb8, "11" + "111100" + "000000" + "1", State{3, 0xb8, 60, 3}},
		{State{2, 0xb0, 56, 4}, 0x1b0, "11" + "110111" + "000000" + "1", State{3, 0x1b0, 55, 8}},
		{State{2, 0xb0, 56, 4}, 0x128, "11" + "110111" + "000101" + "110011", State{3, 0x128, 55, 3}},
		{State{2, 0, 0, 0}, 1, "10" + "00" + nought + "1", State{3, 1, 0, 0}},
		{State{2, 0, 0, 0}, all, "10" + "111" + one, State{3, all, 0, 0}},
		{State{2, 0, 63, 0}, 1, "10" + "1", State{3, 1, 63, 0}},
		{State{2, 0, 63, 0}, 2, "11" + "111110" + "000000" + "1", State{3, 2, 62, 1}},
		{State{2, 0, 63, 0}, 3, "11" + "111110" + "000001" + "11", State{3, 3, 62, 0}},
		{State{2, 0, 0, 63}, 1 << 63, "10" + "1", State{3, 1 << 63, 0, 63}},
		{State{2, 0, 0, 63}, 1 << 62, "11" + "000001" + "000000" + "1", State{3, 1 << 62, 1, 62}},
	} {
		mustBe(t, c.s, c.v, c.want, c.behind)
	}
}

func TestOneBitAtEachPlace(t *testing.T) { // 7.1, 7.3: from each window, in it and beside it
	for _, w := range goodWindows() {
		last := uint64(0x0123456789abcdef)
		s := State{2, last, w[0], w[1]}
		for place := range 64 {
			v := last ^ 1<<place
			digs, behind := wordsPut(s, v)
			if in := place >= w[1] && place < 64-w[0]; in && len(digs) != 2+64-w[0]-w[1] || !in && len(digs) != 15 {
				t.Fatalf("the bit %d, window %v: %d bits", place, w, len(digs))
			}
			writer := bits.NewWriter()
			if got, e := Put(writer, s, v); got != behind || e != api.OK {
				t.Fatalf("Put(%v, %x) = %v, %v, want %v", s, v, got, e, behind)
			}
			mustHave(t, "one bit", writer, digs)
			if got, back, e := Get(readerOf(t, digs), s); got != behind || back != v || e != api.OK {
				t.Fatalf("Get(%v) of %s = %v, %x, %v, want %v, %x", s, digs, got, back, e, behind, v)
			}
		}
	}
}

func TestAllBitsDifferent(t *testing.T) { // 7.1, 7.5
	for _, last := range edgeValues() {
		for _, w := range someWindows() {
			want := 78
			if w == [2]int{0, 0} {
				want = 66
			}
			if size := mustBeByTheWords(t, State{1, last, w[0], w[1]}, ^last); size != want {
				t.Errorf("all bits, window %v: %d bits, want %d", w, size, want)
			}
		}
	}
}

func TestEdgesOfTheWindow(t *testing.T) { // 7.1: a difference that just fills it, has room in it, or passes it by one bit
	for _, last := range []uint64{0, all, 0x5555555555555555} {
		for _, w := range goodWindows()[1:] {
			lead, trail := w[0], w[1]
			s := State{3, last, lead, trail}
			high, low := uint64(1)<<(63-lead), uint64(1)<<trail
			inside := 2 + 64 - lead - trail
			sizes := map[uint64]int{high | low: inside, high: inside, low: inside, (high | (high - 1)) &^ (low - 1): inside}
			if lead > 0 {
				sizes[high<<1] = 15
				sizes[high<<1|low] = 14 + 65 - lead - trail
			}
			if trail > 0 {
				sizes[low>>1] = 15
				sizes[high|low>>1] = 14 + 65 - lead - trail
			}
			if lead > 0 && trail > 0 {
				sizes[high<<1|low>>1] = 14 + 66 - lead - trail
			}
			for x, want := range sizes {
				digs, behind := wordsPut(s, last^x)
				if len(digs) != want {
					t.Fatalf("%x, window %v: %d bits, want %d", x, w, len(digs), want)
				}
				writer := bits.NewWriter()
				if got, e := Put(writer, s, last^x); got != behind || e != api.OK {
					t.Fatalf("Put(%v, %x) = %v, %v, want %v", s, last^x, got, e, behind)
				}
				mustHave(t, "an edge", writer, digs)
				if got, v, e := Get(readerOf(t, digs), s); got != behind || v != last^x || e != api.OK {
					t.Fatalf("Get(%v) of %s = %v, %x, %v, want %v, %x", s, digs, got, v, e, behind, last^x)
				}
			}
		}
	}
}

func TestStatesAtTheirBounds(t *testing.T) { // 7.1: all that may be are taken
	for _, n := range []int{0, 1, 2, api.MaxItems - 1, api.MaxItems} {
		for _, w := range someWindows() {
			for _, last := range []uint64{0, 1, all} {
				for _, v := range edgeValues() {
					mustBeByTheWords(t, State{n, last, w[0], w[1]}, v)
				}
			}
		}
	}
}

func TestRefusedStates(t *testing.T) { // 7.1, P1, P2: ahead of all that the bits may say
	full := strings.Repeat("1", api.MaxBytes*8)
	for k, s := range wrongStates() {
		for _, v := range []uint64{0, 7, all} {
			mustRefusePut(t, "110", s, v, api.ErrArg)
		}
		for _, digs := range []string{"", "0", "1", "10", anewDigits(63, "1"), strings.Repeat("0", 80), strings.Repeat("1", 80)} {
			mustRefuseGet(t, digs, s, api.ErrArg)
		}
		if k%50 == 0 {
			mustRefusePut(t, full, s, 7, api.ErrArg)
		}
	}
}

func TestFullWriter(t *testing.T) { // 7.1, P1, P2: each form, each room that is left; all bits are written, or none
	full := strings.Repeat("10", api.MaxBytes*4)
	for _, c := range []struct {
		s    State
		v    uint64
		size int
	}{
		{Begin(), 5, 64},
		{State{2, 5, 64, 0}, 5, 1},
		{State{2, 5, 60, 1}, 7, 5},
		{State{2, 5, 0, 0}, 7, 66},
		{State{2, 5, 64, 0}, 4, 15},
		{State{2, 5, 64, 0}, 5 | 1<<63, 78 - 2},
		{State{2, 5, 64, 0}, ^uint64(5), 78},
	} {
		want, behind := wordsPut(c.s, c.v)
		for _, room := range []int{0, 1, 2, 3, 8, 13, 14, 15, 63, 64, 65, 66, 77, c.size - 1, c.size, c.size + 1} {
			ahead := full[room:]
			if room < len(want) {
				mustRefusePut(t, ahead, c.s, c.v, api.ErrLong)
				continue
			}
			w := writerOf(t, ahead)
			if s, e := Put(w, c.s, c.v); s != behind || e != api.OK {
				t.Fatalf("room for %d of %d bits: %v, %v", room, c.size, s, e)
			}
			mustHave(t, "a writer that is nearly full", w, ahead+want)
		}
	}
}

func TestPutBehindARefusal(t *testing.T) { // P2: a value that has room is taken by a writer that refused a greater one
	full := strings.Repeat("01", api.MaxBytes*4)
	w := writerOf(t, full[20:])
	s := State{2, 5, 64, 0}
	if _, e := Put(w, s, ^uint64(5)); e != api.ErrLong {
		t.Fatal(e)
	}
	if got, e := Put(w, s, 4); got != (State{3, 4, 63, 0}) || e != api.OK {
		t.Fatalf("%v, %v", got, e)
	}
	mustHave(t, "behind a refusal", w, full[20:]+anewDigits(63, "1"))
}

func TestNoWriterNoReader(t *testing.T) { // rule 2, 7.1, P1: ahead of all other errors
	states := append(wrongStates(), Begin(), State{}, State{1, 5, 64, 0}, State{2, 5, 3, 4}, State{api.MaxItems, all, 0, 0})
	for _, s := range states {
		for _, v := range []uint64{0, 5, all} {
			for _, w := range []*bits.Writer{nil, {}} {
				if got, e := Put(w, s, v); got != (State{}) || e != api.ErrNil {
					t.Fatalf("Put(%v, %x) = %v, %v, want ErrNil", s, v, got, e)
				}
				if w.Len() != 0 || len(w.Bytes()) != 0 {
					t.Fatalf("%d bits of a writer that no call made", w.Len())
				}
			}
		}
		for _, r := range []*bits.Reader{nil, {}} {
			if got, v, e := Get(r, s); got != (State{}) || v != 0 || e != api.ErrNil {
				t.Fatalf("Get(%v) = %v, %x, %v, want ErrNil", s, got, v, e)
			}
			if _, e := r.Get(0); e != api.ErrNil {
				t.Fatalf("behind a refused Get: %v", e)
			}
		}
	}
}

func TestTooFewBits(t *testing.T) { // 7.1, P2: each cut of each form; the last bit is enough
	for _, last := range []uint64{0, all, 77} {
		for _, w := range someWindows() {
			for _, n := range []int{0, 1, api.MaxItems} {
				s := State{n, last, w[0], w[1]}
				for _, v := range append(edgeValues(), last, last^1, last^1<<63, ^last, last^0xff00) {
					digs, behind := wordsPut(s, v)
					for cut := range len(digs) {
						mustRefuseGet(t, digs[:cut], s, api.ErrBits)
					}
					mustGet(t, digs, s, v, behind)
				}
			}
		}
	}
}

func TestTenWithNoughts(t *testing.T) { // 7.1, 7.4, P2: 10 with nothing between but noughts
	for _, last := range []uint64{0, 7, all} {
		for _, w := range goodWindows() {
			s, between := State{1, last, w[0], w[1]}, 64-w[0]-w[1]
			mustRefuseGet(t, "10"+strings.Repeat("0", between), s, api.ErrBits)
			mustRefuseGet(t, "10"+strings.Repeat("0", between)+"11", s, api.ErrBits) // what is behind is not asked
		}
	}
}

func TestElevenWithNoughtsOutside(t *testing.T) { // 7.1, 7.4, P2: bits that do not begin and end with a 1
	for lead := range 64 {
		for size := 1; size <= 64-lead; size++ {
			s := State{1, 7, 64, 0}
			one := strings.Repeat("1", size)
			mustRefuseGet(t, anewDigits(lead, "0"+one[1:]), s, api.ErrBits)
			mustRefuseGet(t, anewDigits(lead, one[1:]+"0"), s, api.ErrBits)
			mustRefuseGet(t, anewDigits(lead, strings.Repeat("0", size)), s, api.ErrBits)
			digs := anewDigits(lead, one)
			behind := State{2, 7 ^ value(one)<<(64-lead-size), lead, 64 - lead - size}
			if got, v, e := Get(readerOf(t, digs), s); got != behind || v != behind.Last || e != api.OK {
				t.Fatalf("Get of %s = %v, %x, %v, want %v", digs, got, v, e, behind)
			}
		}
	}
	for _, between := range []string{"0001", "0101", "1000", "1010", "0110", "0000"} {
		mustRefuseGet(t, anewDigits(20, between), State{5, all, 50, 0}, api.ErrBits)
	}
}

func TestElevenBeyondTheEnd(t *testing.T) { // 7.1, P1, P2: bits that reach beyond 64, be they there or not
	for lead := 1; lead < 64; lead++ {
		for size := 65 - lead; size <= 64; size++ {
			digs := anewDigits(lead, strings.Repeat("1", size))
			for _, s := range []State{{1, 7, 64, 0}, {2, 7, 0, 63}, {2, 7, 0, 0}} {
				mustRefuseGet(t, digs, s, api.ErrBits)
				mustRefuseGet(t, digs[:14], s, api.ErrBits)
			}
		}
	}
}

func TestElevenWithRoomInTheWindow(t *testing.T) { // 7.1, 7.4, P2
	for _, w := range goodWindows()[1:] {
		s := State{2, 99, w[0], w[1]}
		for _, lead := range []int{0, w[0] - 1, w[0], w[0] + 1, 63} {
			for _, trail := range []int{0, w[1] - 1, w[1], w[1] + 1, 63} {
				size := 64 - lead - trail
				if lead < 0 || trail < 0 || size < 1 {
					continue
				}
				between := strings.Repeat("1", size)
				digs := anewDigits(lead, between)
				if lead >= w[0] && trail >= w[1] {
					mustRefuseGet(t, digs, s, api.ErrBits)
					continue
				}
				behind := State{3, 99 ^ value(between)<<trail, lead, trail}
				if got, v, e := Get(readerOf(t, digs), s); got != behind || v != behind.Last || e != api.OK {
					t.Fatalf("Get(%v) of %s = %v, %x, %v, want %v", s, digs, got, v, e, behind)
				}
			}
		}
	}
}

func TestGetByTheWords(t *testing.T) { // 7.1: drawn bits, from drawn states
	r := rand.New(rand.NewSource(71))
	windows, good, refused := goodWindows(), 0, 0
	for range 60000 {
		w := windows[r.Intn(len(windows))]
		if r.Intn(4) == 0 {
			w = someWindows()[r.Intn(len(someWindows()))]
		}
		s := State{r.Intn(4), r.Uint64() >> r.Intn(65), w[0], w[1]}
		digs := []string{"", "10", "11", "11" + digits(uint64(r.Intn(20)), 6) + digits(uint64(r.Intn(64)), 6) + "1"}[r.Intn(4)]
		digs += digits(r.Uint64()>>r.Intn(64)<<r.Intn(64), 64)[:r.Intn(65)]
		v, size, ok := wordsGet(digs, s)
		if !ok {
			refused++
			mustRefuseGet(t, digs, s, api.ErrBits)
			continue
		}
		good++
		written, behind := wordsPut(s, v)
		if written != digs[:size] {
			t.Fatalf("%s is %x behind %v by the words, and %s again", digs[:size], v, s, written)
		}
		mustGet(t, digs[:size], s, v, behind)
	}
	if good < 5000 || refused < 5000 {
		t.Errorf("%d were read, %d refused", good, refused)
	}
}

func TestValueByValue(t *testing.T) { // 7.1, 7.3: values put one by one, each state behind the one ahead
	r := rand.New(rand.NewSource(72))
	for range 200 {
		w, s, want := bits.NewWriter(), Begin(), ""
		l := drawnValues(r, 60)
		for _, v := range l {
			digs, behind := wordsPut(s, v)
			if _, e := Put(w, State{s.N, s.Last, s.Lead, 64}, v); e != api.ErrArg {
				t.Fatalf("a state that may not be: %v", e)
			}
			var e api.Errno
			if s, e = Put(w, s, v); s != behind || e != api.OK {
				t.Fatalf("Put(%x) = %v, %v, want %v", v, s, e, behind)
			}
			want += digs
			mustHave(t, "one by one", w, want)
		}
		in, s := bits.NewReader(w.Bytes()), Begin()
		for _, v := range l {
			digs, behind := wordsPut(s, v)
			place := in.At()
			var got uint64
			var e api.Errno
			if s, got, e = Get(in, s); s != behind || got != v || e != api.OK || in.At() != place+len(digs) {
				t.Fatalf("Get = %v, %x, %v at %d, want %v, %x at %d", s, got, e, in.At(), behind, v, place+len(digs))
			}
		}
	}
}

func TestBytesByTheWords(t *testing.T) { // 7.2, 7.3
	r := rand.New(rand.NewSource(73))
	lists := [][]uint64{nil, {}, {0}, {all}, {0, 0}, {0, all}, {all, 0}, {0, 0, 0}, {all, all, 0}, {5, 5, 4}, {api.Stale, api.Stale, 0x7ff0000000000001}, edgeValues()}
	for range 300 {
		lists = append(lists, drawnValues(r, r.Intn(90)))
	}
	for _, l := range lists {
		b, e := Bytes(l...)
		if e != api.OK || !bytes.Equal(b, packed(wordsBytes(l))) {
			t.Fatalf("Bytes(%x) = %x, %v, want %x", l, b, e, packed(wordsBytes(l)))
		}
		for n := range len(l) + 1 { // and the first ones of them
			if got, e := Read(b, n); e != api.OK || !slices.Equal(got, l[:n]) {
				t.Fatalf("Read(%x, %d) = %x, %v, want %x", b, n, got, e, l[:n])
			}
		}
	}
}

func TestNoValues(t *testing.T) { // 7.2
	for _, l := range [][]uint64{nil, {}} {
		if b, e := Bytes(l...); len(b) != 0 || e != api.OK {
			t.Errorf("Bytes() = %x, %v", b, e)
		}
	}
	for _, b := range [][]byte{nil, {}, {255}, bytes.Repeat([]byte{255}, 90), make([]byte, api.MaxBytes+1)} {
		if l, e := Read(b, 0); len(l) != 0 || e != api.OK {
			t.Errorf("Read(%d bytes, 0) = %v, %v", len(b), l, e)
		}
	}
}

// widest are n values, each but the first with a window of its own that is as wide as the last one's leaves it.
func widest(n int) []uint64 {
	l, v := []uint64{}, uint64(0)
	for k := range n {
		l = append(l, v)
		v ^= all >> 1 << (k % 2)
	}
	return l
}

func TestManyValues(t *testing.T) { // 7.2: MaxItems, and one more
	l := widest(api.MaxItems + 1)
	digs := wordsBytes(l[:api.MaxItems])
	if len(digs) != 64+(api.MaxItems-1)*77 {
		t.Fatalf("%d bits", len(digs))
	}
	b, e := Bytes(l[:api.MaxItems]...)
	if e != api.OK || !bytes.Equal(b, packed(digs)) {
		t.Fatalf("MaxItems values: %d bytes, %v", len(b), e)
	}
	if got, e := Read(b, api.MaxItems); e != api.OK || !slices.Equal(got, l[:api.MaxItems]) {
		t.Errorf("MaxItems values are read as %d, %v", len(got), e)
	}
	for _, many := range [][]uint64{l, make([]uint64, api.MaxItems+1), make([]uint64, 3*api.MaxItems)} {
		if b, e := Bytes(many...); len(b) != 0 || e != api.ErrLong {
			t.Errorf("%d values: %d bytes, %v, want ErrLong", len(many), len(b), e)
		}
	}
	more := packed(wordsBytes(widest(api.MaxItems + 5)))
	if got, e := Read(more, api.MaxItems); e != api.OK || !slices.Equal(got, widest(api.MaxItems)) {
		t.Errorf("MaxItems values of more are read as %d, %v", len(got), e)
	}
}

func TestReadRefusesNumbers(t *testing.T) { // 7.2, P1: ahead of Get's errors
	for _, n := range []int{-1, -2, math.MinInt, api.MaxItems + 1, api.MaxItems + 2, 1 << 32, math.MaxInt} {
		for _, b := range [][]byte{nil, {1}, bytes.Repeat([]byte{255}, 90), packed(wordsBytes(widest(9))), make([]byte, 2*api.MaxItems)} {
			if l, e := Read(b, n); len(l) != 0 || e != api.ErrArg {
				t.Errorf("Read(%x, %d) = %v, %v, want ErrArg", b, n, l, e)
			}
		}
	}
}

func TestReadRefusesBits(t *testing.T) { // 7.2, P1: Get's errors, and nothing of what is ahead
	two := digits(10, 64) + anewDigits(60, "1111")
	for _, c := range []struct {
		digs string
		n    int
	}{
		{"", 1},
		{"", api.MaxItems},
		{digits(10, 64)[:56], 1},
		{digits(10, 64), 2},
		{two, 2 + 6 + 1}, // six noughts fill up the last byte
		{two + "10" + "0000", 3},
		{two + "10" + "00", 3 + 2},
		{two + anewDigits(60, "1"), 3},
		{two + anewDigits(59, "01"), 3},
		{two + anewDigits(59, "10"), 3},
		{two + anewDigits(59, "111111"), 3},
		{two + anewDigits(50, "111111111")[:20], 3},
	} {
		b := packed(c.digs)
		if l, e := Read(b, c.n); len(l) != 0 || e != api.ErrBits {
			t.Errorf("Read(%x, %d) = %v, %v, want ErrBits", b, c.n, l, e)
		}
	}
	if l, e := Read(packed(two), 2+6); e != api.OK || !slices.Equal(l, []uint64{10, 5, 5, 5, 5, 5, 5, 5}) {
		t.Errorf("the last byte's noughts: %v, %v", l, e)
	}
}

// readHolds holds Read against the chapter's words; what is read has, written again, just those bits.
func readHolds(t *testing.T, b []byte, n int) bool {
	t.Helper()
	var want []uint64
	s, rest, wantError := State{Lead: 64}, unpacked(b), api.OK
	for range n {
		v, size, ok := wordsGet(rest, s)
		if !ok {
			want, wantError = nil, api.ErrBits
			break
		}
		want, rest = append(want, v), rest[size:]
		_, s = wordsPut(s, v)
	}
	l, e := Read(b, n)
	if e != wantError || !slices.Equal(l, want) {
		t.Fatalf("Read(%x, %d) = %x, %v, want %x, %v", b, n, l, e, want, wantError)
	}
	if e != api.OK {
		return false
	}
	again, e := Bytes(l...)
	size := len(b)*8 - len(rest)
	if e != api.OK || !bytes.Equal(again, packed(unpacked(b)[:size])) {
		t.Fatalf("%x is read as %x, and written again as %x, %v", b, l, again, e)
	}
	return true
}

func TestReadByTheWords(t *testing.T) { // 7.2, 7.4: drawn values' bytes, some with a bit turned
	r := rand.New(rand.NewSource(74))
	good, refused := 0, 0
	for range 10000 {
		l := drawnValues(r, 1+r.Intn(8))
		b := packed(wordsBytes(l))
		if r.Intn(2) == 0 {
			b[r.Intn(len(b))] ^= 1 << r.Intn(8)
		}
		if !readHolds(t, b, len(l)+r.Intn(3)/2) {
			refused++
		} else if len(l) > 2 {
			good++
		}
	}
	if good < 500 || refused < 500 {
		t.Errorf("%d lists were read, %d refused", good, refused)
	}
}

func TestOneWay(t *testing.T) { // 7.4: all bits of a size, behind states with windows of many kinds
	for _, s := range []State{{1, 40, 64, 0}, {2, 40, 63, 0}, {2, 40, 0, 63}, {2, all, 52, 6}, {2, 0, 0, 55}, {9, 1 << 63, 60, 1}} {
		for x := range uint64(1 << 16) {
			digs := digits(x, 16)
			r := readerOf(t, digs)
			behind, v, e := Get(r, s)
			if e != api.OK {
				continue
			}
			w := bits.NewWriter()
			if again, e := Put(w, s, v); again != behind || e != api.OK {
				t.Fatalf("%s is read as %x behind %v, and written: %v, %v, want %v", digs, v, s, again, e, behind)
			}
			mustHave(t, digs, w, digs[:16-r.Left()])
		}
	}
}

func TestSmall(t *testing.T) { // 7.5
	r := rand.New(rand.NewSource(75))
	windows, widestSeen := goodWindows(), 0
	for range 20000 {
		w := windows[r.Intn(len(windows))]
		s := State{r.Intn(3), r.Uint64(), w[0], w[1]}
		v := drawnValue(r, s.Last)
		writer := bits.NewWriter()
		if _, e := Put(writer, s, v); e != api.OK {
			t.Fatal(e)
		}
		if s.N > 0 && v == s.Last && writer.Len() != 1 {
			t.Fatalf("the last value again behind %v takes %d bits", s, writer.Len())
		}
		widestSeen = max(widestSeen, writer.Len())
	}
	if widestSeen != 78 {
		t.Errorf("the widest value takes %d bits, want 78", widestSeen)
	}
	for _, v := range edgeValues() {
		l := slices.Repeat([]uint64{v}, api.MaxItems)
		if b, e := Bytes(l...); e != api.OK || len(b) != (64+api.MaxItems-1+7)/8 {
			t.Errorf("MaxItems times %x: %d bytes, %v", v, len(b), e)
		}
	}
}

func TestNoughts(t *testing.T) { // the generic function's kinds, each number of one byte
	for x := 1; x < 256; x++ {
		ahead, behind := around(digits(uint64(x), 8))
		if got := noughts(uint8(x)); got != (window{ahead, behind}) {
			t.Errorf("a byte %d: %v", x, got)
		}
		for move := range 9 {
			if got := noughts(uint16(x) << move); got != (window{ahead + 8 - move, behind + move}) {
				t.Errorf("two bytes, %d by %d: %v", x, move, got)
			}
		}
		if got := noughts(uint32(x) << 24); got != (window{ahead, behind + 24}) {
			t.Errorf("four bytes, %d: %v", x, got)
		}
		if got := noughts(uint64(x) << 56); got != (window{ahead, behind + 56}) {
			t.Errorf("eight bytes, %d: %v", x, got)
		}
	}
}

func TestMemory(t *testing.T) { // rule 4: values and bytes that the caller changes
	l := []uint64{10, 20, 20, 41, all, 1 << 30}
	kept := slices.Clone(l)
	b, _ := Bytes(l...)
	if !slices.Equal(l, kept) {
		t.Errorf("Bytes changed its values: %v", l)
	}
	want := slices.Clone(b)
	for k := range l {
		l[k] = 9
	}
	if !bytes.Equal(b, want) {
		t.Errorf("bytes changed with the values: %x, want %x", b, want)
	}
	got, _ := Read(b, 6)
	other, _ := Read(b, 6)
	if !bytes.Equal(b, want) {
		t.Errorf("Read changed its bytes: %x, want %x", b, want)
	}
	for k := range b {
		b[k] = 255
	}
	for k := range other {
		other[k] = 1
	}
	if !slices.Equal(got, kept) {
		t.Errorf("values changed with the bytes, or other values: %v, want %v", got, kept)
	}
	if again, e := Bytes(kept...); e != api.OK || !bytes.Equal(again, want) {
		t.Errorf("Bytes again: %x, %v, want %x", again, e, want)
	}
}

func TestReaderBesideAnother(t *testing.T) { // rule 4: a reader that goes on moves none of the same bytes
	b, _ := Bytes(10, 20, 30)
	r, other := bits.NewReader(b), bits.NewReader(b)
	s, v, e := Get(r, Begin())
	if v != 10 || e != api.OK || other.At() != 0 {
		t.Fatalf("%d, %v, the other at %d", v, e, other.At())
	}
	if _, v, e := Get(other, Begin()); v != 10 || e != api.OK || r.At() != 64 {
		t.Fatalf("%d, %v, the first at %d", v, e, r.At())
	}
	if s, v, e = Get(r, s); s != (State{2, 20, 59, 1}) || v != 20 || e != api.OK || other.At() != 64 {
		t.Fatalf("%v, %d, %v, the other at %d", s, v, e, other.At())
	}
}

func FuzzRead(f *testing.F) { // P1, 7.2, 7.4
	f.Add([]byte{0, 0, 0, 0, 0, 0, 0, 5, 0x7f, 0x81}, 3)
	f.Add(packed(wordsBytes(edgeValues())), 14)
	f.Add([]byte{255, 255}, -1)
	f.Fuzz(func(t *testing.T, b []byte, n int) {
		if n < 0 || n > api.MaxItems {
			if l, e := Read(b, n); len(l) != 0 || e != api.ErrArg {
				t.Fatalf("Read(%x, %d) = %v, %v", b, n, l, e)
			}
			return
		}
		readHolds(t, b, n)
	})
}

func FuzzPutGet(f *testing.F) { // P1, 7.1, 7.3
	f.Add(2, uint64(20), 56, 4, uint64(30))
	f.Add(0, uint64(0), 64, 0, uint64(all))
	f.Add(api.MaxItems, uint64(all), 0, 63, uint64(0))
	f.Fuzz(func(t *testing.T, n int, last uint64, lead, trail int, v uint64) {
		s := State{n, last, lead, trail}
		none := lead == 64 && trail == 0
		within := lead >= 0 && lead <= 63 && trail >= 0 && trail <= 63 && 64-lead-trail >= 1
		if n < 0 || n > api.MaxItems || !none && !within {
			mustRefusePut(t, "01", s, v, api.ErrArg)
			mustRefuseGet(t, "0110", s, api.ErrArg)
			return
		}
		mustBeByTheWords(t, s, v)
	})
}
