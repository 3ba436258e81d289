package stamp

import (
	"bytes"
	"fmt"
	"math"
	"math/rand"
	"slices"
	"strings"
	"testing"

	"tidepole/api"
	"tidepole/bits"
)

// digits is x as n digits 0 and 1, the highest first.
func digits(x uint64, n int) string { return fmt.Sprintf("%064b", x)[64-n:] }

// value is the number that digits are.
func value(s string) uint64 {
	x := uint64(0)
	for _, c := range s {
		x = 2*x + uint64(c-'0')
	}
	return x
}

// packed is the bytes of such digits, the last one filled up with noughts.
func packed(s string) []byte {
	b := make([]byte, (len(s)+7)/8)
	for k := range len(s) {
		if s[k] == '1' {
			b[k/8] += 1 << (7 - k%8)
		}
	}
	return b
}

// unpacked is all digits of b.
func unpacked(b []byte) string {
	var s strings.Builder
	for _, x := range b {
		s.WriteString(digits(uint64(x), 8))
	}
	return s.String()
}

// unsigned turns 0, -1, 1, -2 .. into 0, 1, 2, 3 ..
func unsigned(d int) uint64 {
	if d < 0 {
		return uint64(-2*d - 1)
	}
	return uint64(2 * d)
}

// signed turns it back.
func signed(x uint64) int {
	if x%2 == 1 {
		return -int((x + 1) / 2)
	}
	return int(x / 2)
}

// told is a time that is not the first one, as digits, as the chapter's words tell it.
func told(x uint64) string {
	switch {
	case x == 0:
		return "0"
	case x < 1<<7:
		return "10" + digits(x, 7)
	case x < 1<<12:
		return "110" + digits(x, 12)
	case x < 1<<20:
		return "1110" + digits(x, 20)
	}
	return "1111" + digits(x, 48)
}

// wordsPut is a time behind a state, as digits, and the state behind it.
func wordsPut(s State, t int) (string, State) {
	if s.N == 0 {
		return digits(uint64(t), 46), State{1, t, 0}
	}
	return told(unsigned(t - s.Last - s.Delta)), State{s.N + 1, t, t - s.Last}
}

// wordsGet is the time that digits begin with, and how many of them it has, as the chapter's words tell it.
func wordsGet(digs string, s State) (t, size int, e api.Errno) {
	ahead, own, below := 0, 46, uint64(0)
	if s.N > 0 {
		for ahead < 4 && ahead < len(digs) && digs[ahead] == '1' {
			ahead++
		}
		own, below = []int{0, 7, 12, 20, 48}[ahead], []uint64{0, 1, 1 << 7, 1 << 12, 1 << 20}[ahead]
		ahead = min(ahead+1, 4)
	}
	if len(digs) < ahead+own {
		return 0, 0, api.ErrBits
	}
	x := value(digs[ahead : ahead+own])
	if x < below {
		return 0, 0, api.ErrTime
	}
	t = int(x)
	if s.N > 0 {
		t = s.Last + s.Delta + signed(x)
	}
	if t < 0 || t > api.MaxTime || s.N > 0 && t <= s.Last {
		return 0, 0, api.ErrTime
	}
	return t, ahead + own, api.OK
}

// wordsBytes is times as digits.
func wordsBytes(l []int) string {
	var b strings.Builder
	s := State{}
	for _, t := range l {
		var d string
		d, s = wordsPut(s, t)
		b.WriteString(d)
	}
	return b.String()
}

// writerOf is a writer that has just these digits.
func writerOf(t *testing.T, s string) *bits.Writer {
	t.Helper()
	w := bits.NewWriter()
	for at := 0; at < len(s); {
		n := min(64, len(s)-at)
		if e := w.Put(value(s[at:at+n]), n); e != api.OK {
			t.Fatal(e)
		}
		at += n
	}
	return w
}

// readerOf is a reader of which just these digits are left: some are ahead of them, so that they end with a byte.
func readerOf(t *testing.T, s string) *bits.Reader {
	t.Helper()
	ahead := (8 - len(s)%8) % 8
	r := bits.NewReader(packed(strings.Repeat("1", ahead) + s))
	if _, e := r.Get(ahead); e != api.OK || r.Left() != len(s) {
		t.Fatal(e, r.Left())
	}
	return r
}

// mustHave holds a writer against the digits it must have.
func mustHave(t *testing.T, what string, w *bits.Writer, want string) {
	t.Helper()
	if !bytes.Equal(w.Bytes(), packed(want)) || w.Len() != len(want) {
		t.Fatalf("%s: %d bits %x, want %d bits %x", what, w.Len(), w.Bytes(), len(want), packed(want))
	}
}

// mustPut holds what a time is written as against the digits and the state it must be.
func mustPut(t *testing.T, s State, at int, want string, behind State) {
	t.Helper()
	for _, ahead := range []string{"", "1", "0110101", "1111111110"} {
		w := writerOf(t, ahead)
		got, e := Put(w, s, at)
		if got != behind || e != api.OK {
			t.Fatalf("Put(%v, %d) = %v, %v, want %v", s, at, got, e, behind)
		}
		mustHave(t, fmt.Sprintf("Put(%v, %d)", s, at), w, ahead+want)
	}
}

// mustGet holds what digits are read as against the time and the state they must be; others behind them stay.
func mustGet(t *testing.T, digs string, s State, want int, behind State) {
	t.Helper()
	for _, more := range []string{"", "0", "1", "1011"} {
		r := readerOf(t, digs+more)
		got, at, e := Get(r, s)
		if got != behind || at != want || e != api.OK || r.Left() != len(more) {
			t.Fatalf("Get of %s, %v = %v, %d, %v, %d left, want %v, %d, %d left", digs, s, got, at, e, r.Left(), behind, want, len(more))
		}
	}
}

// mustRefusePut holds a refused Put against its error; nothing is written.
func mustRefusePut(t *testing.T, digs string, s State, at int, want api.Errno) {
	t.Helper()
	w := writerOf(t, digs)
	if got, e := Put(w, s, at); got != (State{}) || e != want {
		t.Fatalf("Put(%v, %d) behind %d bits = %v, %v, want %v", s, at, len(digs), got, e, want)
	}
	mustHave(t, "a refused Put", w, digs)
}

// mustRefuseGet holds a refused Get against its error; the place stays.
func mustRefuseGet(t *testing.T, digs string, s State, want api.Errno) {
	t.Helper()
	r := readerOf(t, digs)
	place := r.At()
	got, at, e := Get(r, s)
	if got != (State{}) || at != 0 || e != want {
		t.Fatalf("Get of %q, %v = %v, %d, %v, want %v", digs, s, got, at, e, want)
	}
	if r.At() != place || r.Left() != len(digs) {
		t.Fatalf("a refused Get of %q: %d left, want %d", digs, r.Left(), len(digs))
	}
	if n := min(len(digs), 64); n > 0 {
		if x, e := r.Get(n); x != value(digs[:n]) || e != api.OK {
			t.Fatalf("behind a refused Get of %q: %x, %v", digs, x, e)
		}
	}
}

// edgeTimes are times at the edges, rising.
func edgeTimes() []int {
	return []int{0, 1, 2, 127, 128, 4095, 4096, 1<<20 - 1, 1 << 20, 1 << 32, 1<<44 + 7, api.MaxTime - 1, api.MaxTime}
}

// wrongTimes are numbers that no time may be.
func wrongTimes() []int {
	return []int{-1, -2, math.MinInt, math.MinInt + 1, -api.MaxTime, -api.MaxTime - 1, api.MaxTime + 1, api.MaxTime + 2, 1<<46 - 1, 1 << 46, 1 << 48, 1 << 62, math.MaxInt - 1, math.MaxInt}
}

// goodStates are states that may be, those at the bounds among them.
func goodStates() []State {
	var l []State
	for _, n := range []int{0, 1, 2, 3, api.MaxItems - 1, api.MaxItems} {
		for _, last := range []int{0, 1, 1000, api.MaxTime - 1, api.MaxTime} {
			for _, delta := range []int{0, 1, 10, 1000, api.MaxTime - 1, api.MaxTime} {
				l = append(l, State{n, last, delta})
			}
		}
	}
	return l
}

// wrongStates are states that may not be, each for one or more reasons.
func wrongStates() []State {
	var l []State
	for _, n := range []int{-1, -2, api.MaxItems + 1, api.MaxItems + 2, 1 << 32, math.MinInt, math.MaxInt} {
		l = append(l, State{N: n}, State{n, 5, 2}, State{n, -1, -1})
	}
	for _, x := range wrongTimes() {
		for _, n := range []int{0, 1, 2, api.MaxItems} {
			l = append(l, State{n, x, 0}, State{n, x, 1}, State{n, 0, x}, State{n, 7, x}, State{n, x, x})
		}
	}
	return l
}

// classEdges are numbers without a sign at the edges of the classes, up to the greatest one of two times.
func classEdges() []uint64 {
	l := []uint64{0, 1, 2, 3, 5}
	for _, k := range []int{7, 12, 20, 30, 45} {
		for d := range uint64(7) {
			l = append(l, 1<<k-3+d)
		}
	}
	return append(l, 1<<46-4, 1<<46-3, 1<<46-2, 1<<46)
}

// drawnTimes are n rising times: steps that stay, or change by numbers of all sizes.
func drawnTimes(r *rand.Rand, n int) []int {
	var l []int
	at, step := r.Intn(1<<r.Intn(44)+1), 1
	for range n {
		if at > api.MaxTime {
			break
		}
		l = append(l, at)
		if r.Intn(3) > 0 {
			step = max(1, step+r.Intn(1<<r.Intn(30)+1)-r.Intn(1<<r.Intn(30)+1))
		}
		at += step
	}
	return l
}

func TestExample(t *testing.T) { // 6.1, 6.5: the chapter's
	w, s := bits.NewWriter(), State{}
	want := []struct {
		at, size int
		behind   State
	}{{10, 46, State{1, 10, 0}}, {20, 46 + 9, State{2, 20, 10}}, {30, 46 + 9 + 1, State{3, 30, 10}}}
	for _, c := range want {
		var e api.Errno
		if s, e = Put(w, s, c.at); e != api.OK || s != c.behind || w.Len() != c.size {
			t.Fatalf("Put(%d): %v, %v, %d bits, want %v, %d", c.at, s, e, w.Len(), c.behind, c.size)
		}
	}
	by := digits(10, 46) + "10" + "0010100" + "0"
	mustHave(t, "10, 20, 30", w, by)
	if b, e := Bytes(10, 20, 30); e != api.OK || !bytes.Equal(b, packed(by)) {
		t.Errorf("Bytes(10, 20, 30) = %x, %v, want %x", b, e, packed(by))
	}
	if b := packed(by); !bytes.Equal(b, []byte{0, 0, 0, 0, 0, 0x2a, 0x28}) {
		t.Errorf("by hand: %x", b)
	}
	if l, e := Read([]byte{0, 0, 0, 0, 0, 0x2a, 0x28}, 3); e != api.OK || !slices.Equal(l, []int{10, 20, 30}) {
		t.Errorf("Read = %v, %v", l, e)
	}
}

func TestFirstTime(t *testing.T) { // 6.1: 46 bits, whatever else a state of none says
	for _, at := range edgeTimes() {
		for _, s := range goodStates() {
			if s.N == 0 {
				mustPut(t, s, at, digits(uint64(at), 46), State{1, at, 0})
				mustGet(t, digits(uint64(at), 46), s, at, State{1, at, 0})
			}
		}
	}
	mustPut(t, State{}, 0, strings.Repeat("0", 46), State{N: 1})
	mustPut(t, State{}, api.MaxTime, "1"+strings.Repeat("0", 45), State{N: 1, Last: api.MaxTime})
}

func TestFirstTimeThatMayNotBe(t *testing.T) { // 6.1, P2
	for _, x := range []uint64{api.MaxTime + 1, api.MaxTime + 2, 1<<45 | 1<<44, 1<<46 - 2, 1<<46 - 1} {
		mustRefuseGet(t, digits(x, 46), State{}, api.ErrTime)
		mustRefuseGet(t, digits(x, 46)+"0", State{Last: 9, Delta: 9}, api.ErrTime)
	}
}

func TestSecondAndThirdTime(t *testing.T) { // 6.1: by hand
	for _, c := range []struct {
		s      State
		at     int
		want   string
		behind State
	}{
		{State{1, 10, 0}, 11, "10" + "0000010", State{2, 11, 1}},
		{State{1, 10, 0}, 73, "10" + "1111110", State{2, 73, 63}},
		{State{1, 10, 0}, 74, "110" + "000010000000", State{2, 74, 64}},
		{State{1, 0, 0}, api.MaxTime, "1111" + "01" + strings.Repeat("0", 46), State{2, api.MaxTime, api.MaxTime}},
		{State{2, 20, 10}, 30, "0", State{3, 30, 10}},
		{State{2, 20, 10}, 29, "10" + "0000001", State{3, 29, 9}},
		{State{2, 20, 10}, 31, "10" + "0000010", State{3, 31, 11}},
		{State{2, 20, 10}, 21, "10" + "0010001", State{3, 21, 1}},
		{State{2, 200, 100}, 236, "10" + "1111111", State{3, 236, 36}},
		{State{2, 200, 100}, 235, "110" + "000010000001", State{3, 235, 35}},
		{State{2, 200, 100}, 300 + 2047, "110" + "111111111110", State{3, 2347, 2147}},
		{State{2, 200, 100}, 300 + 2048, "1110" + "00000001000000000000", State{3, 2348, 2148}},
		{State{2, 9000, 5000}, 14000 - 2048, "110" + "111111111111", State{3, 11952, 2952}},
		{State{2, 9000, 5000}, 14000 - 2049, "1110" + "00000001000000000001", State{3, 11951, 2951}},
		{State{2, 0, 0}, 1<<19 - 1, "1110" + "11111111111111111110", State{3, 1<<19 - 1, 1<<19 - 1}},
		{State{2, 0, 0}, 1 << 19, "1111" + strings.Repeat("0", 27) + "1" + strings.Repeat("0", 20), State{3, 1 << 19, 1 << 19}},
		{State{2, 0, 1 << 20}, 1 << 19, "1110" + "11111111111111111111", State{3, 1 << 19, 1 << 19}},
		{State{2, 0, 1 << 20}, 1<<19 - 1, "1111" + strings.Repeat("0", 27) + "1" + strings.Repeat("0", 19) + "1", State{3, 1<<19 - 1, 1<<19 - 1}},
		{State{2, api.MaxTime - 1, api.MaxTime}, api.MaxTime, "1111" + "00" + strings.Repeat("1", 44) + "01", State{3, api.MaxTime, 1}},
	} {
		mustPut(t, c.s, c.at, c.want, c.behind)
		mustGet(t, c.want, c.s, c.at, c.behind)
	}
}

func TestClassEdges(t *testing.T) { // 6.1: each edge, with and without a sign, from many states
	seen := map[int]int{}
	for _, x := range classEdges() {
		for _, n := range []int{1, 2, 77, api.MaxItems} {
			for _, last := range []int{0, 5, 1 << 30, api.MaxTime - 1} {
				for _, delta := range []int{0, 1, 70, 5000, 1 << 21, 1 << 44, api.MaxTime} {
					s, at := State{n, last, delta}, last+delta+signed(x)
					if at <= last || at > api.MaxTime {
						mustRefuseGet(t, told(x), s, api.ErrTime)
						continue
					}
					want, behind := wordsPut(s, at)
					mustPut(t, s, at, want, behind)
					mustGet(t, want, s, at, behind)
					seen[len(want)]++
				}
			}
		}
	}
	for _, size := range []int{1, 9, 15, 24, 52} {
		if seen[size] == 0 {
			t.Errorf("no time of %d bits", size)
		}
	}
	if len(seen) != 5 {
		t.Errorf("sizes: %v", seen)
	}
}

func TestStatesAtTheirBounds(t *testing.T) { // 6.1: all that may be are taken, and their Delta counts, whatever N is
	for _, s := range goodStates() {
		for _, at := range append(edgeTimes(), s.Last+1, min(s.Last+s.Delta, api.MaxTime)) {
			if at > api.MaxTime || s.N > 0 && at <= s.Last {
				mustRefusePut(t, "101", s, at, api.ErrTime)
				continue
			}
			want, behind := wordsPut(s, at)
			mustPut(t, s, at, want, behind)
			mustGet(t, want, s, at, behind)
		}
	}
}

func TestPutRefusesTimes(t *testing.T) { // 6.1, P1, P2
	for _, s := range goodStates() {
		for _, at := range wrongTimes() {
			mustRefusePut(t, "10110", s, at, api.ErrTime)
		}
		if s.N > 0 {
			for _, back := range []int{0, 1, 2, 500} {
				mustRefusePut(t, "", s, s.Last-back, api.ErrTime)
			}
		}
	}
}

func TestRefusedStates(t *testing.T) { // 6.1, P1, P2: ahead of all that the bits may say
	full := strings.Repeat("1", api.MaxBytes*8)
	for k, s := range wrongStates() {
		for _, at := range []int{0, 8, 1 << 30, api.MaxTime, -1} {
			mustRefusePut(t, "110", s, at, api.ErrTime)
		}
		for _, digs := range []string{"", "0", "1", "100000010", strings.Repeat("0", 60), strings.Repeat("1", 60)} {
			mustRefuseGet(t, digs, s, api.ErrTime)
		}
		if k == 0 {
			mustRefusePut(t, full, s, 8, api.ErrTime)
		}
	}
}

func TestFullWriter(t *testing.T) { // 6.1, P1: each class, each room that is left
	full := strings.Repeat("10", api.MaxBytes*4)
	for _, c := range []struct {
		s    State
		at   int
		size int
	}{
		{State{}, 5, 46},
		{State{2, 10, 10}, 20, 1},
		{State{2, 10, 10}, 21, 9},
		{State{2, 10, 10}, 1000, 15},
		{State{2, 10, 10}, 100000, 24},
		{State{2, 10, 10}, 1 << 40, 52},
	} {
		for _, room := range []int{0, 1, 2, 3, 4, c.size - 1, c.size, c.size + 1} {
			ahead := full[room:]
			if room < c.size {
				mustRefusePut(t, ahead, c.s, c.at, api.ErrLong)
				continue
			}
			w := writerOf(t, ahead)
			want, behind := wordsPut(c.s, c.at)
			if s, e := Put(w, c.s, c.at); s != behind || e != api.OK {
				t.Fatalf("room for %d of %d bits: %v, %v", room, c.size, s, e)
			}
			mustHave(t, "a writer that is nearly full", w, ahead+want)
		}
		mustRefusePut(t, full, c.s, -1, api.ErrTime) // the first error named
	}
}

func TestNoWriterNoReader(t *testing.T) { // rule 2, 6.1, P1: ahead of all other errors
	for _, s := range append(goodStates(), wrongStates()...) {
		for _, at := range []int{-1, 0, 8, api.MaxTime, api.MaxTime + 1} {
			for _, w := range []*bits.Writer{nil, {}} {
				if got, e := Put(w, s, at); got != (State{}) || e != api.ErrNil {
					t.Fatalf("Put(%v, %d) = %v, %v, want ErrNil", s, at, got, e)
				}
				if w.Len() != 0 || len(w.Bytes()) != 0 {
					t.Fatalf("%d bits of a writer that no call made", w.Len())
				}
			}
		}
		for _, r := range []*bits.Reader{nil, {}} {
			if got, at, e := Get(r, s); got != (State{}) || at != 0 || e != api.ErrNil {
				t.Fatalf("Get(%v) = %v, %d, %v, want ErrNil", s, got, at, e)
			}
			if _, e := r.Get(0); e != api.ErrNil {
				t.Fatalf("behind a refused Get: %v", e)
			}
		}
	}
}

func TestTooFewBits(t *testing.T) { // 6.1, P2: each cut of each class; the last bit is enough
	cuts := []string{digits(10, 46), digits(api.MaxTime, 46)}
	for k, digs := range cuts {
		for n := range len(digs) {
			mustRefuseGet(t, digs[:n], State{}, api.ErrBits)
		}
		mustGet(t, digs, State{}, []int{10, api.MaxTime}[k], State{1, []int{10, api.MaxTime}[k], 0})
	}
	for _, x := range []uint64{0, 1, 127, 128, 4095, 4096, 1<<20 - 1, 1 << 20, 1 << 44} {
		s := State{2, 5, 1 << 42}
		digs := told(x)
		for n := range len(digs) {
			mustRefuseGet(t, digs[:n], s, api.ErrBits)
		}
		at := s.Last + s.Delta + signed(x)
		mustGet(t, digs, s, at, State{3, at, at - 5})
	}
	for _, digs := range []string{"10" + "000000", "110" + "00000000000", "1110" + strings.Repeat("0", 19), "1111" + strings.Repeat("0", 47), "1111" + strings.Repeat("1", 47)} {
		mustRefuseGet(t, digs, State{1, 5, 0}, api.ErrBits) // ahead of what they would stand for
	}
	mustRefuseGet(t, "1"+strings.Repeat("1", 44), State{}, api.ErrBits)
}

func TestMoreBitsThanNeeded(t *testing.T) { // 6.1, 6.4, P2: all that a lesser class has room for
	s := State{2, 5, 1 << 30}
	refused := func(mark string, size int, x uint64) {
		mustRefuseGet(t, mark+digits(x, size), s, api.ErrTime)
	}
	refused("10", 7, 0)
	for x := range uint64(1 << 7) {
		refused("110", 12, x)
	}
	for x := range uint64(1 << 12) {
		refused("1110", 20, x)
	}
	for x := uint64(0); x < 1<<20; x += 97 {
		refused("1111", 48, x)
	}
	for _, k := range []int{0, 1, 7, 12, 19, 20} {
		refused("1111", 48, 1<<k-1)
	}
	for _, c := range []struct {
		mark string
		size int
		x    uint64
	}{{"10", 7, 1}, {"110", 12, 1 << 7}, {"1110", 20, 1 << 12}, {"1111", 48, 1 << 20}} {
		at := s.Last + s.Delta + signed(c.x)
		mustGet(t, c.mark+digits(c.x, c.size), s, at, State{3, at, at - 5})
	}
}

func TestBitsOfNoTime(t *testing.T) { // 6.1, P2: a time that would not rise, or would pass MaxTime
	for _, s := range []State{{1, 0, 0}, {1, 50, 0}, {2, 50, 10}, {3, 50, 3000}, {9, 50, 1 << 19}, {9, 1 << 44, 1 << 44}, {2, api.MaxTime, 0}, {2, api.MaxTime - 5, 6}, {2, api.MaxTime - 5, 5}, {2, 7, api.MaxTime}} {
		for _, at := range []int{s.Last + 1, api.MaxTime} {
			if at > s.Last && at <= api.MaxTime {
				mustGet(t, told(unsigned(at-s.Last-s.Delta)), s, at, State{s.N + 1, at, at - s.Last})
			}
		}
		for _, more := range []int{0, 1, 2, 60, 3000, 1 << 20, 1 << 44} {
			for _, at := range []int{s.Last - more, api.MaxTime + 1 + more} {
				mustRefuseGet(t, told(unsigned(at-s.Last-s.Delta)), s, api.ErrTime)
			}
		}
		for _, x := range []uint64{1<<48 - 1, 1<<48 - 2, 1 << 47, 1<<47 + 1, 1<<46 + 1<<45} {
			mustRefuseGet(t, "1111"+digits(x, 48), s, api.ErrTime)
		}
	}
	mustRefuseGet(t, "0", State{1, 5, 0}, api.ErrTime) // a second time that is the first one
	mustRefuseGet(t, "0", State{3, api.MaxTime, 1}, api.ErrTime)
}

func TestGetByTheWords(t *testing.T) { // 6.1: drawn bits, from drawn states
	r := rand.New(rand.NewSource(61))
	seen := map[api.Errno]int{}
	for range 30000 {
		s := State{r.Intn(4), r.Intn(1 << r.Intn(46)), r.Intn(1 << r.Intn(46))}
		digs := digits(r.Uint64()>>r.Intn(64), 64)[:r.Intn(65)]
		if r.Intn(2) == 0 {
			digs = strings.Repeat("1", r.Intn(5)) + "0" + digs
		}
		at, size, e := wordsGet(digs, s)
		seen[e]++
		if e != api.OK {
			mustRefuseGet(t, digs, s, e)
			continue
		}
		_, behind := wordsPut(s, at)
		mustGet(t, digs[:size], s, at, behind)
	}
	for _, e := range []api.Errno{api.OK, api.ErrBits, api.ErrTime} {
		if seen[e] < 100 {
			t.Errorf("%v: %d times", e, seen[e])
		}
	}
}

func TestStateByState(t *testing.T) { // 6.1, 6.3: times put one by one, among them some that are refused
	r := rand.New(rand.NewSource(62))
	for range 200 {
		w, s, want := bits.NewWriter(), State{}, ""
		l := drawnTimes(r, 60)
		for _, at := range l {
			digs, behind := wordsPut(s, at)
			if s.N > 0 {
				if _, e := Put(w, s, s.Last-r.Intn(3)); e != api.ErrTime {
					t.Fatalf("a time that does not rise: %v", e)
				}
			}
			var e api.Errno
			if s, e = Put(w, s, at); s != behind || e != api.OK {
				t.Fatalf("Put(%d) = %v, %v, want %v", at, s, e, behind)
			}
			want += digs
			mustHave(t, "one by one", w, want)
		}
		in, s := bits.NewReader(w.Bytes()), State{}
		for _, at := range l {
			size, behind := wordsPut(s, at)
			place := in.At()
			var got int
			var e api.Errno
			if s, got, e = Get(in, s); s != behind || got != at || e != api.OK || in.At() != place+len(size) {
				t.Fatalf("Get = %v, %d, %v at %d, want %v, %d at %d", s, got, e, in.At(), behind, at, place+len(size))
			}
		}
	}
}

func TestBytesByTheWords(t *testing.T) { // 6.2, 6.3
	r := rand.New(rand.NewSource(63))
	lists := [][]int{nil, {}, {0}, {api.MaxTime}, {0, api.MaxTime}, {0, 1}, {0, 1, 2}, {api.MaxTime - 1, api.MaxTime}, {0, api.MaxTime - 1, api.MaxTime}, {0, 1, api.MaxTime}, edgeTimes()}
	for range 300 {
		lists = append(lists, drawnTimes(r, r.Intn(90)))
	}
	for _, l := range lists {
		b, e := Bytes(l...)
		if e != api.OK || !bytes.Equal(b, packed(wordsBytes(l))) {
			t.Fatalf("Bytes(%v) = %x, %v, want %x", l, b, e, packed(wordsBytes(l)))
		}
		for n := range len(l) + 1 { // and the first ones of them
			if got, e := Read(b, n); e != api.OK || !slices.Equal(got, l[:n]) {
				t.Fatalf("Read(%x, %d) = %v, %v, want %v", b, n, got, e, l[:n])
			}
		}
	}
}

func TestNoTimes(t *testing.T) { // 6.2
	for _, l := range [][]int{nil, {}} {
		if b, e := Bytes(l...); len(b) != 0 || e != api.OK {
			t.Errorf("Bytes() = %x, %v", b, e)
		}
	}
	for _, b := range [][]byte{nil, {}, {255}, bytes.Repeat([]byte{255}, 90), make([]byte, api.MaxBytes+1)} {
		if l, e := Read(b, 0); len(l) != 0 || e != api.OK {
			t.Errorf("Read(%d bytes, 0) = %v, %v", len(b), l, e)
		}
	}
}

// widest are n times of which each one but the first takes as many bits as can be.
func widest(n int) []int {
	l, at := []int{}, 0
	for k := range n {
		l = append(l, at)
		at += 1 + k%2*(1<<20)
	}
	return l
}

func TestManyTimes(t *testing.T) { // 6.2: MaxItems, and one more
	l := widest(api.MaxItems + 1)
	b, e := Bytes(l[:api.MaxItems]...)
	if e != api.OK || !bytes.Equal(b, packed(wordsBytes(l[:api.MaxItems]))) {
		t.Fatalf("MaxItems times: %d bytes, %v", len(b), e)
	}
	if got, e := Read(b, api.MaxItems); e != api.OK || !slices.Equal(got, l[:api.MaxItems]) {
		t.Errorf("MaxItems times are read as %d, %v", len(got), e)
	}
	if b, e := Bytes(l...); len(b) != 0 || e != api.ErrLong {
		t.Errorf("one more: %d bytes, %v, want ErrLong", len(b), e)
	}
	for _, bad := range []int{-1, 0, api.MaxTime + 1} { // the first error named
		l[3] = bad
		if b, e := Bytes(l...); len(b) != 0 || e != api.ErrLong {
			t.Errorf("one more, and %d among them: %d bytes, %v, want ErrLong", bad, len(b), e)
		}
		if b, e := Bytes(l[:api.MaxItems]...); len(b) != 0 || e != api.ErrTime {
			t.Errorf("%d among MaxItems: %d bytes, %v, want ErrTime", bad, len(b), e)
		}
	}
	more := packed(wordsBytes(widest(api.MaxItems + 5)))
	if got, e := Read(more, api.MaxItems); e != api.OK || !slices.Equal(got, widest(api.MaxItems)) {
		t.Errorf("MaxItems times of more are read as %d, %v", len(got), e)
	}
}

func TestBytesRefusesTimes(t *testing.T) { // 6.2, P1: at each place
	good := []int{3, 7, 8, 2000, 1 << 33, api.MaxTime - 2}
	for at := range good {
		for _, bad := range wrongTimes() {
			l := slices.Clone(good)
			l[at] = bad
			if b, e := Bytes(l...); len(b) != 0 || e != api.ErrTime {
				t.Errorf("Bytes(%v) = %x, %v, want ErrTime", l, b, e)
			}
		}
		for back := range 2 {
			l := slices.Clone(good)
			l = slices.Insert(l, at+1, l[at]-back)
			if b, e := Bytes(l...); len(b) != 0 || e != api.ErrTime {
				t.Errorf("Bytes(%v) = %x, %v, want ErrTime", l, b, e)
			}
		}
	}
}

func TestReadRefusesNumbers(t *testing.T) { // 6.2, P1: ahead of Get's errors
	for _, n := range []int{-1, -2, math.MinInt, api.MaxItems + 1, api.MaxItems + 2, 1 << 32, math.MaxInt} {
		for _, b := range [][]byte{nil, {1}, bytes.Repeat([]byte{255}, 90), packed(wordsBytes(widest(9)))} {
			if l, e := Read(b, n); len(l) != 0 || e != api.ErrArg {
				t.Errorf("Read(%x, %d) = %v, %v, want ErrArg", b, n, l, e)
			}
		}
	}
}

func TestReadRefusesBits(t *testing.T) { // 6.2, P1: Get's errors, and nothing of what is ahead
	two := digits(10, 46) + told(20)
	for _, c := range []struct {
		digs string
		n    int
		want api.Errno
	}{
		{"", 1, api.ErrBits},
		{"", api.MaxItems, api.ErrBits},
		{digits(1<<46-1, 46), 1, api.ErrTime},
		{digits(10, 46)[:40], 1, api.ErrBits},
		{two, 4, api.ErrBits},                              // a nought fills up the last byte: 20, 30
		{two + "10" + digits(0, 7), 3, api.ErrTime},        // more than are needed
		{two + "10" + digits(19, 7), 3, api.ErrTime},       // a step of no length
		{two + "1111" + digits(1<<46, 48), 3, api.ErrTime}, // beyond MaxTime
		{two + "1111" + digits(1<<46, 43), 3, api.ErrBits},
	} {
		b := packed(c.digs)
		if l, e := Read(b, c.n); len(l) != 0 || e != c.want {
			t.Errorf("Read(%x, %d) = %v, %v, want %v", b, c.n, l, e, c.want)
		}
	}
	if l, e := Read(packed(two), 3); e != api.OK || !slices.Equal(l, []int{10, 20, 30}) {
		t.Errorf("the last byte's nought: %v, %v", l, e)
	}
}

func TestReadByTheWords(t *testing.T) { // 6.2, 6.4: drawn bytes
	r := rand.New(rand.NewSource(64))
	good := 0
	for range 20000 {
		digs := "00" + digits(r.Uint64(), 44)
		for range r.Intn(6) {
			digs += told(r.Uint64() >> (16 + r.Intn(48)))
		}
		b, n := packed(digs), r.Intn(8)
		if r.Intn(4) == 0 {
			b[r.Intn(len(b))] ^= 1 << r.Intn(8)
		}
		if readHolds(t, b, n) && n > 2 {
			good++
		}
	}
	if good < 500 {
		t.Errorf("only %d lists were read", good)
	}
}

// readHolds holds Read against the chapter's words; what is read has, written again, just those bits.
func readHolds(t *testing.T, b []byte, n int) bool {
	t.Helper()
	var want []int
	var s State
	rest, wantError := unpacked(b), api.OK
	for range n {
		at, size, e := wordsGet(rest, s)
		if e != api.OK {
			want, wantError = nil, e
			break
		}
		want, rest = append(want, at), rest[size:]
		_, s = wordsPut(s, at)
	}
	l, e := Read(b, n)
	if e != wantError || !slices.Equal(l, want) {
		t.Fatalf("Read(%x, %d) = %v, %v, want %v, %v", b, n, l, e, want, wantError)
	}
	if e != api.OK {
		return false
	}
	again, e := Bytes(l...)
	size := len(b)*8 - len(rest)
	if e != api.OK || !bytes.Equal(again, packed(unpacked(b)[:size])) {
		t.Fatalf("%x is read as %v, and written again as %x, %v", b, l, again, e)
	}
	return true
}

func TestOneWay(t *testing.T) { // 6.4: all bits of a size that are read, as a second and a third time
	for _, s := range []State{{1, 40, 0}, {2, 40, 30}, {2, 40, 5000}, {2, api.MaxTime - 70, 60}} {
		for x := range uint64(1 << 15) {
			digs := digits(x, 15)
			r := readerOf(t, digs)
			_, at, e := Get(r, s)
			if e != api.OK {
				continue
			}
			w := bits.NewWriter()
			if _, e := Put(w, s, at); e != api.OK {
				t.Fatalf("%s is read as %d behind %v, and not written: %v", digs, at, s, e)
			}
			mustHave(t, digs, w, digs[:15-r.Left()])
		}
	}
}

func TestSmall(t *testing.T) { // 6.5
	for _, step := range []int{1, 2, 63, 64, 1000, 1 << 30, api.MaxTime / 100} {
		for _, from := range []int{0, 1, 12345, api.MaxTime - 99*step} {
			w, s, size := bits.NewWriter(), State{}, 0
			for k := range 100 {
				var e api.Errno
				if s, e = Put(w, s, from+k*step); e != api.OK {
					if from+k*step > api.MaxTime {
						break
					}
					t.Fatal(e)
				}
				if k >= 2 && w.Len() != size+1 {
					t.Fatalf("from %d by %d: the time %d takes %d bits", from, step, k, w.Len()-size)
				}
				size = w.Len()
			}
		}
	}
	var l []int
	for k := range api.MaxItems {
		l = append(l, 7+15*k)
	}
	if b, e := Bytes(l...); e != api.OK || len(b) != (46+9+api.MaxItems-2+7)/8 {
		t.Errorf("MaxItems times by the same step: %d bytes, %v", len(b), e)
	}
}

func TestMemory(t *testing.T) { // rule 4
	l := []int{10, 20, 30, 41, 1 << 30}
	kept := slices.Clone(l)
	b, _ := Bytes(l...)
	if !slices.Equal(l, kept) {
		t.Errorf("Bytes changed its times: %v", l)
	}
	want := slices.Clone(b)
	for k := range l {
		l[k] = -9
	}
	if !bytes.Equal(b, want) {
		t.Errorf("bytes changed with the times: %x, want %x", b, want)
	}
	got, _ := Read(b, 5)
	other, _ := Read(b, 5)
	if !bytes.Equal(b, want) {
		t.Errorf("Read changed its bytes: %x, want %x", b, want)
	}
	for k := range b {
		b[k] = 255
	}
	other[0] = -1
	if !slices.Equal(got, kept) {
		t.Errorf("times changed with the bytes, or other times: %v, want %v", got, kept)
	}
	if again, e := Bytes(kept...); e != api.OK || !bytes.Equal(again, want) {
		t.Errorf("Bytes again: %x, %v, want %x", again, e, want)
	}
}

func TestReaderBesideAnother(t *testing.T) { // rule 4: a reader that goes on moves none of the same bytes
	b, _ := Bytes(10, 20, 30)
	r, other := bits.NewReader(b), bits.NewReader(b)
	s, at, e := Get(r, State{})
	if at != 10 || e != api.OK || other.At() != 0 {
		t.Fatalf("%d, %v, the other at %d", at, e, other.At())
	}
	if _, at, e := Get(other, State{}); at != 10 || e != api.OK || r.At() != 46 {
		t.Fatalf("%d, %v, the first at %d", at, e, r.At())
	}
	if s, at, e = Get(r, s); s != (State{2, 20, 10}) || at != 20 || e != api.OK || other.At() != 46 {
		t.Fatalf("%v, %d, %v, the other at %d", s, at, e, other.At())
	}
}

func FuzzRead(f *testing.F) { // P1, 6.2, 6.4
	f.Add([]byte{0, 0, 0, 0, 0, 0x2a, 0x28}, 3)
	f.Add(packed(wordsBytes(edgeTimes())), 13)
	f.Add([]byte{255, 255}, -1)
	f.Fuzz(func(t *testing.T, b []byte, n int) {
		if n < 0 || n > api.MaxItems {
			if l, e := Read(b, n); len(l) != 0 || e != api.ErrArg {
				t.Fatalf("Read(%x, %d) = %v, %v", b, n, l, e)
			}
			return
		}
		readHolds(t, b, n)
	})
}

func FuzzPutGet(f *testing.F) { // P1, 6.1, 6.3
	f.Add(2, 20, 10, 30)
	f.Add(0, 0, 0, api.MaxTime)
	f.Add(api.MaxItems, api.MaxTime-1, api.MaxTime, api.MaxTime)
	f.Fuzz(func(t *testing.T, n, last, delta, at int) {
		s := State{n, last, delta}
		good := n >= 0 && n <= api.MaxItems && last >= 0 && last <= api.MaxTime && delta >= 0 && delta <= api.MaxTime
		if !good || at < 0 || at > api.MaxTime || n > 0 && at <= last {
			mustRefusePut(t, "01", s, at, api.ErrTime)
			return
		}
		digs, behind := wordsPut(s, at)
		mustPut(t, s, at, digs, behind)
		mustGet(t, digs, s, at, behind)
	})
}
