package chunk

import (
	"bytes"
	"cmp"
	"fmt"
	"math"
	mathbits "math/bits"
	"math/rand"
	"slices"
	"strings"
	"testing"

	"tidepole/api"
)

const all = math.MaxUint64

// digits is x as n digits 0 and 1, the highest first.
func digits(x uint64, n int) string { return fmt.Sprintf("%064b", x)[64-n:] }

// filled is the bytes of such digits, the last one filled up with noughts.
func filled(s string) []byte {
	b := make([]byte, (len(s)+7)/8)
	for k := range len(s) {
		if s[k] == '1' {
			b[k/8] += 1 << (7 - k%8)
		}
	}
	return b
}

// timeDigits is a time that is no first one, as chapter 6 tells it: step is its difference from the last one, elder the last one's.
func timeDigits(step, elder int) string {
	x := uint64(2 * (step - elder))
	if step < elder {
		x = uint64(2*(elder-step) - 1)
	}
	switch {
	case x == 0:
		return "0"
	case x < 1<<7:
		return "10" + digits(x, 7)
	case x < 1<<12:
		return "110" + digits(x, 12)
	case x < 1<<20:
		return "1110" + digits(x, 20)
	}
	return "1111" + digits(x, 48)
}

// valueDigits is a value that is no first one, as chapter 7 tells it: x is what it differs by; and the window behind it.
func valueDigits(x uint64, lead, trail int) (string, int, int) {
	if x == 0 {
		return "0", lead, trail
	}
	ahead, behind := mathbits.LeadingZeros64(x), mathbits.TrailingZeros64(x)
	if ahead >= lead && behind >= trail {
		return "10" + digits(x, 64)[lead:64-trail], lead, trail
	}
	between := digits(x, 64)[ahead : 64-behind]
	return "11" + digits(uint64(ahead), 6) + digits(uint64(len(between)-1), 6) + between, ahead, behind
}

// wordsBits is samples as digits: one by one the time, then the value.
func wordsBits(l []api.Sample) string {
	var b strings.Builder
	step, lead, trail := 0, 64, 0
	for k, s := range l {
		if k == 0 {
			b.WriteString(digits(uint64(s.T), 46) + digits(s.V, 64))
			continue
		}
		elder := step
		step = s.T - l[k-1].T
		var v string
		v, lead, trail = valueDigits(s.V^l[k-1].V, lead, trail)
		b.WriteString(timeDigits(step, elder) + v)
	}
	return b.String()
}

// number is n as bytes, as chapter 1 tells it.
func number(n uint64) []byte {
	if n < 128 {
		return []byte{byte(n)}
	}
	return append([]byte{byte(n%128) + 128}, number(n/128)...)
}

// wordsSum is the sum of b, as chapter 2 tells it.
func wordsSum(b []byte) uint32 {
	reg := ^uint32(0)
	for _, x := range b {
		reg ^= uint32(x)
		for range 8 {
			gone := reg & 1
			reg >>= 1
			if gone == 1 {
				reg ^= 0x82F63B78
			}
		}
	}
	return ^reg
}

// sealed is all bytes of the lists, and their sum behind them.
func sealed(l ...[]byte) []byte {
	b := slices.Concat(l...)
	sum := wordsSum(b)
	return append(b, byte(sum), byte(sum>>8), byte(sum>>16), byte(sum>>24))
}

// told is bytes that say that there are n samples with these bits, with a right sum.
func told(n uint64, bits []byte) []byte {
	return sealed(number(n), number(uint64(len(bits))), bits)
}

// words is the bytes of a chunk, as the chapter's words tell it.
func words(l []api.Sample) []byte { return told(uint64(len(l)), filled(wordsBits(l))) }

// mustPut is the chunk of samples that may be one.
func mustPut(t *testing.T, l []api.Sample) []byte {
	t.Helper()
	b, e := Put(l)
	if e != api.OK {
		t.Fatalf("Put(%v): %v", l, e)
	}
	return b
}

// mustRead holds what stands at a place against the samples and the end that it must have.
func mustRead(t *testing.T, b []byte, at int, want []api.Sample, end int) {
	t.Helper()
	l, place, e := Read(b, at)
	if e != api.OK || place != end || !slices.Equal(l, want) {
		t.Fatalf("Read(%x, %d) = %v, %d, %v, want %v, %d", b, at, l, place, e, want, end)
	}
}

// mustRefuse holds a refused Read against its error.
func mustRefuse(t *testing.T, b []byte, at int, want api.Errno) {
	t.Helper()
	if l, place, e := Read(b, at); len(l) != 0 || place != 0 || e != want {
		t.Fatalf("Read(%x, %d) = %v, %d, %v, want %v", b, at, l, place, e, want)
	}
}

// mustRefusePut holds a refused Put against its error.
func mustRefusePut(t *testing.T, l []api.Sample, want api.Errno) {
	t.Helper()
	if b, e := Put(l); len(b) != 0 || e != want {
		t.Fatalf("Put(%v) = %x, %v, want %v", l, b, e, want)
	}
}

// mustHave holds a builder against the samples it must have.
func mustHave(t *testing.T, b *Builder, want []api.Sample) {
	t.Helper()
	if b.Len() != len(want) {
		t.Fatalf("%d samples, want %d", b.Len(), len(want))
	}
	x, e := b.Bytes()
	if len(want) == 0 {
		if len(x) != 0 || e != api.ErrArg {
			t.Fatalf("Bytes() of none = %x, %v, want ErrArg", x, e)
		}
		return
	}
	if e != api.OK || !bytes.Equal(x, words(want)) {
		t.Fatalf("Bytes() = %x, %v, want %x", x, e, words(want))
	}
}

// steps are n samples whose times go on by one step, of values that change little.
func steps(first, step, n int) []api.Sample {
	var l []api.Sample
	for k := range n {
		l = append(l, api.Sample{T: first + k*step, V: uint64(k % 3)})
	}
	return l
}

// drawn are n samples, with steps and values of all sizes.
func drawn(r *rand.Rand, n int) []api.Sample {
	var l []api.Sample
	s := api.Sample{T: r.Intn(1 << r.Intn(40)), V: r.Uint64()}
	for range n {
		l = append(l, s)
		s.T += 1 + r.Intn(1<<r.Intn(36))
		switch r.Intn(5) {
		case 0:
			s.V = r.Uint64()
		case 1:
			s.V = []uint64{0, all, api.Stale}[r.Intn(3)]
		case 2, 3:
			s.V ^= r.Uint64() >> r.Intn(64) << r.Intn(64)
		}
	}
	return l
}

// wide are n samples of which each but the first two takes as many bits as can be.
func wide(n int) []api.Sample {
	l := []api.Sample{{T: 0, V: 0}}
	for k := range n - 1 {
		step := []int{1, 1 << 21}[k%2]
		l = append(l, api.Sample{T: l[k].T + step, V: l[k].V ^ all>>1<<(k%2)})
	}
	return l
}

// goodLists are lists that may be chunks: edges, and drawn ones.
func goodLists() [][]api.Sample {
	lists := [][]api.Sample{
		{{T: 0, V: 0}},
		{{T: 0, V: all}},
		{{T: api.MaxTime, V: 0}},
		{{T: api.MaxTime, V: all}},
		{{T: 0, V: all}, {T: 1, V: 0}},
		{{T: 0, V: 0}, {T: api.MaxTime, V: all}},
		{{T: 0, V: 1}, {T: 1, V: 1}, {T: api.MaxTime, V: 1}},
		{{T: 0, V: 1}, {T: api.MaxTime - 1, V: 2}, {T: api.MaxTime, V: api.Stale}},
		{{T: 10, V: 5}, {T: 20, V: 5}},
		{{T: 10, V: 5}, {T: 20, V: 5}, {T: 30, V: api.Stale}},
		steps(0, 1, api.MaxSamples),
		steps(api.MaxTime-api.MaxSamples+1, 1, api.MaxSamples),
		steps(7, 1000, api.MaxSamples-1),
		wide(api.MaxSamples),
	}
	r := rand.New(rand.NewSource(81))
	for range 300 {
		lists = append(lists, drawn(r, 1+r.Intn(api.MaxSamples)))
	}
	return lists
}

func TestExample(t *testing.T) { // 8.1: the chapter's
	bits := []byte{
		0, 0, 0, 0, 0, 10 << 2, // 46 bits of 10, and the first two of 5
		0, 0, 0, 0, 0, 0, 0, 5<<2 | 0b10, // the others, and the first two of the second sample
		20<<1 | 0, // its step of 10, as 20, in 7 bits, and that its value is the same
	}
	want := sealed([]byte{2, 15}, bits)
	got := mustPut(t, []api.Sample{{T: 10, V: 5}, {T: 20, V: 5}})
	if len(bits) != 15 || len(got) != 2+15+4 || !bytes.Equal(got, want) {
		t.Errorf("Put = %x, want %x", got, want)
	}
	if sum := wordsSum([]byte("123456789")); sum != 0xe3069283 {
		t.Errorf("the sum of the digits is %x here", sum)
	}
}

func TestPutByTheWords(t *testing.T) { // 8.1, 8.4
	for _, l := range goodLists() {
		got, want := mustPut(t, l), words(l)
		if !bytes.Equal(got, want) {
			t.Fatalf("Put(%v) = %x, want %x", l, got, want)
		}
		mustRead(t, want, 0, l, len(want))
	}
}

func TestPutManyBytes(t *testing.T) { // 8.1: a number of bytes that itself has two
	short, long := 0, 0
	for _, l := range goodLists() {
		if size := len(filled(wordsBits(l))); size < 128 {
			short++
		} else if long++; mustPut(t, l)[1] != byte(size%128+128) {
			t.Errorf("%d bytes of bits: %x", size, mustPut(t, l)[:3])
		}
	}
	if short < 10 || long < 10 {
		t.Errorf("%d short ones, %d long ones", short, long)
	}
}

func TestPutRefusesNumbers(t *testing.T) { // 8.1, P1
	mustRefusePut(t, nil, api.ErrArg)
	mustRefusePut(t, []api.Sample{}, api.ErrArg)
	mustPut(t, steps(0, 1, api.MaxSamples))
	for _, n := range []int{api.MaxSamples + 1, api.MaxSamples + 2, 2 * api.MaxSamples, api.MaxItems + 1} {
		mustRefusePut(t, steps(0, 1, n), api.ErrFull)
		mustRefusePut(t, steps(0, 0, n), api.ErrFull) // ahead of ErrTime
		mustRefusePut(t, steps(-9, 1, n), api.ErrFull)
	}
}

// wrongTimes are times that may not be at all.
func wrongTimes() []int {
	return []int{-1, -2, -api.MaxTime, math.MinInt, api.MaxTime + 1, 1 << 46, 1 << 62, math.MaxInt}
}

func TestPutRefusesTimes(t *testing.T) { // 8.1, P1
	for _, wrong := range wrongTimes() {
		mustRefusePut(t, []api.Sample{{T: wrong, V: 1}}, api.ErrTime)
	}
	for _, n := range []int{2, 3, 50, api.MaxSamples} {
		for k := range n {
			l := steps(100, 10, n)
			for _, wrong := range wrongTimes() {
				l[k].T = wrong
				mustRefusePut(t, l, api.ErrTime)
			}
			if k > 0 {
				l[k].T = l[k-1].T
				mustRefusePut(t, l, api.ErrTime)
				l[k].T = l[k-1].T - 1
				mustRefusePut(t, l, api.ErrTime)
				l[k].T = l[k-1].T + 1
				mustPut(t, l)
			}
		}
	}
}

func TestBuilder(t *testing.T) { // 8.1: sample by sample, with the bytes of each beginning
	for _, l := range goodLists()[:60] {
		b := New()
		mustHave(t, b, nil)
		for k, s := range l {
			if e := b.Add(s); e != api.OK {
				t.Fatalf("Add(%v): %v", s, e)
			}
			mustHave(t, b, l[:k+1])
		}
	}
}

func TestAddRefusesTimes(t *testing.T) { // 8.1, P2
	b := New()
	l := []api.Sample{{T: 10, V: 5}, {T: 20, V: all}, {T: 21, V: 0}, {T: 5000, V: 7}}
	for k, s := range l {
		wrong := wrongTimes()
		if k > 0 {
			wrong = append(wrong, l[k-1].T, l[k-1].T-1, 0)
		}
		for _, time := range wrong {
			for _, v := range []uint64{0, 5, all} {
				if e := b.Add(api.Sample{T: time, V: v}); e != api.ErrTime {
					t.Fatalf("Add of %d behind %v: %v, want ErrTime", time, l[:k], e)
				}
			}
			mustHave(t, b, l[:k])
		}
		if e := b.Add(s); e != api.OK {
			t.Fatalf("Add(%v) behind refused ones: %v", s, e)
		}
		mustHave(t, b, l[:k+1])
	}
}

func TestAddAtTheBounds(t *testing.T) { // 8.1: the first and the last time that may be
	b := New()
	l := []api.Sample{{T: 0, V: 0}, {T: api.MaxTime - 1, V: all}, {T: api.MaxTime, V: 0}}
	for _, s := range l {
		if e := b.Add(s); e != api.OK {
			t.Fatalf("Add(%v): %v", s, e)
		}
	}
	for _, time := range []int{api.MaxTime, api.MaxTime + 1, 0} {
		if e := b.Add(api.Sample{T: time}); e != api.ErrTime {
			t.Errorf("Add of %d behind MaxTime: %v", time, e)
		}
	}
	mustHave(t, b, l)
}

func TestAddRefusesMore(t *testing.T) { // 8.1, P1, P2: ErrFull, ahead of ErrTime
	for _, l := range [][]api.Sample{steps(0, 1, api.MaxSamples+1), wide(api.MaxSamples + 1)} {
		b, full := New(), l[:api.MaxSamples]
		for _, s := range full {
			if e := b.Add(s); e != api.OK {
				t.Fatalf("Add(%v): %v", s, e)
			}
		}
		for _, s := range []api.Sample{l[api.MaxSamples], l[0], l[api.MaxSamples-1], {T: -1}, {T: api.MaxTime + 1}} {
			if e := b.Add(s); e != api.ErrFull {
				t.Fatalf("one more, %v: %v, want ErrFull", s, e)
			}
			mustHave(t, b, full)
		}
	}
}

func TestBuildersBesideEachOther(t *testing.T) { // rule 4: one knows nothing of the other
	a, b := New(), New()
	l, m := steps(5, 7, 40), wide(40)
	for k := range l {
		if e, f := a.Add(l[k]), b.Add(m[k]); e != api.OK || f != api.OK {
			t.Fatal(e, f)
		}
		mustHave(t, a, l[:k+1])
		mustHave(t, b, m[:k+1])
	}
}

func TestBuilderThatNoCallMade(t *testing.T) { // rule 2, P1, P2
	for _, b := range []*Builder{nil, {}, new(Builder)} {
		for _, s := range []api.Sample{{T: 1, V: 1}, {T: 0, V: 0}, {T: -1, V: 1}, {T: math.MaxInt, V: all}} {
			if e := b.Add(s); e != api.ErrNil {
				t.Errorf("Add(%v) = %v, want ErrNil", s, e)
			}
			if n := b.Len(); n != 0 {
				t.Errorf("Len() = %d", n)
			}
			if x, e := b.Bytes(); len(x) != 0 || e != api.ErrNil {
				t.Errorf("Bytes() = %x, %v, want ErrNil", x, e)
			}
		}
	}
}

func TestReadAtAnyPlace(t *testing.T) { // 8.2: with bytes ahead of it and behind it
	for _, l := range goodLists()[:40] {
		b := words(l)
		for _, ahead := range [][]byte{nil, {9}, {0, 255, 128}, b, bytes.Repeat([]byte{255}, 300)} {
			for _, behind := range [][]byte{nil, {0}, {255, 255}, b, make([]byte, 300)} {
				mustRead(t, slices.Concat(ahead, b, behind), len(ahead), l, len(ahead)+len(b))
			}
		}
	}
}

func TestReadOneBehindTheOther(t *testing.T) { // 8.2: the place behind a chunk is the next one's
	var b []byte
	lists := goodLists()
	for _, l := range lists {
		b = append(b, mustPut(t, l)...)
	}
	at := 0
	for _, want := range lists {
		end := at + len(words(want))
		mustRead(t, b, at, want, end)
		at = end
	}
	mustRefuse(t, b, at, api.ErrShort)
}

func TestReadRefusesPlaces(t *testing.T) { // 8.2, P1
	for _, b := range [][]byte{nil, {}, {1}, {128}, words(steps(1, 1, 5))} {
		for _, at := range []int{-1, -2, math.MinInt, len(b) + 1, len(b) + 2, 1 << 32, math.MaxInt} {
			mustRefuse(t, b, at, api.ErrArg)
		}
		mustRefuse(t, b, len(b), api.ErrShort)
	}
}

func TestReadRefusesTheFirstNumber(t *testing.T) { // 8.2, P1: vint's errors
	good := words(steps(1, 1, 5))
	for _, wrong := range [][]byte{{0x85, 0}, {0x80, 0}, {0x85, 0x80, 0}, bytes.Repeat([]byte{255}, 10)} {
		mustRefuse(t, sealed(wrong, []byte{1}, good[1:]), 0, api.ErrVint)
		mustRefuse(t, sealed(wrong, good[1:len(good)-4]), 0, api.ErrVint)
		mustRefuse(t, sealed([]byte{7}, wrong, good[1:]), 1, api.ErrVint)
	}
	for _, n := range []int{1, 2, 9, 10, 11} {
		mustRefuse(t, bytes.Repeat([]byte{128}, n), 0, api.ErrShort)
		mustRefuse(t, bytes.Repeat([]byte{255}, n+1), 1, api.ErrShort)
	}
}

func TestReadRefusesTheSecondNumber(t *testing.T) { // 8.2, P1: vint's errors, ahead of ErrChunk for the first one
	good := words(steps(1, 1, 5))
	bits := good[2 : len(good)-4]
	for _, first := range [][]byte{{0}, {1}, {5}, {120}, {121}, {255, 127}, number(all)} {
		for _, wrong := range [][]byte{{0x80 + byte(len(bits)), 0}, {0x80, 0}, {0x80, 0x80, 0}, append(bytes.Repeat([]byte{255}, 9), 2)} {
			mustRefuse(t, sealed(first, wrong, bits), 0, api.ErrVint)
		}
		mustRefuse(t, first, 0, api.ErrShort)
		mustRefuse(t, append(slices.Clone(first), 128), 0, api.ErrShort)
		mustRefuse(t, append(slices.Clone(first), 255, 255, 255), 0, api.ErrShort)
	}
}

func TestReadRefusesNumbersOfSamples(t *testing.T) { // 8.2, P1: none, or too many, ahead of ErrShort
	for _, n := range []uint64{0, api.MaxSamples + 1, api.MaxSamples + 2, 127, 128, 256, 256 + 5, 1 << 32, 1<<32 + 5, 1 << 63, 1<<63 + 5, all} {
		for _, bits := range [][]byte{nil, {0}, filled(wordsBits(steps(1, 1, 5))), filled(wordsBits(steps(1, 1, 121))), make([]byte, 300)} {
			mustRefuse(t, told(n, bits), 0, api.ErrChunk)
			b := told(n, bits)
			mustRefuse(t, b[:len(b)-1], 0, api.ErrChunk)
		}
		mustRefuse(t, slices.Concat(number(n), []byte{0}), 0, api.ErrChunk)
		mustRefuse(t, slices.Concat(number(n), number(all)), 0, api.ErrChunk)
	}
	most := steps(1, 1, api.MaxSamples)
	mustRead(t, told(api.MaxSamples, filled(wordsBits(most))), 0, most, len(words(most)))
}

func TestReadRefusesShortBytes(t *testing.T) { // 8.2, P1: at every place
	for _, l := range [][]api.Sample{{{T: 3, V: 4}}, steps(1, 1, 5), steps(0, 9, api.MaxSamples), wide(api.MaxSamples)} {
		b := words(l)
		for n := range len(b) {
			mustRefuse(t, b[:n], 0, api.ErrShort)
			mustRefuse(t, append([]byte{1, 2, 3}, b[:n]...), 3, api.ErrShort)
		}
		mustRead(t, b, 0, l, len(b))
	}
}

func TestReadRefusesGreatSizes(t *testing.T) { // 8.2, P1: numbers of bytes that no list has
	good := filled(wordsBits(steps(1, 1, 5)))
	here := uint64(len(good))
	for _, size := range []uint64{here + 1, here + 2, here + 3, here + 4, api.MaxBytes, api.MaxBytes + 1, 1<<31 - 1, 1 << 32, 1<<32 + here, 1<<63 - 5, 1<<63 - 1, 1 << 63, 1<<63 + here, all - 7, all - 4, all - 3, all - 1, all} {
		mustRefuse(t, sealed(number(5), number(size), good), 0, api.ErrShort)
		mustRefuse(t, sealed([]byte{9}, number(5), number(size), good), 1, api.ErrShort)
	}
}

func TestReadRefusesAnyByteChanged(t *testing.T) { // 8.2, P1: a sum that is another one, at every byte
	for _, l := range [][]api.Sample{{{T: 3, V: 4}}, steps(1, 1, 5), drawn(rand.New(rand.NewSource(82)), 9), wide(20)} {
		b := words(l)
		head := len(b) - 4 - len(filled(wordsBits(l)))
		for at := range b {
			for turn := 1; turn < 256; turn++ {
				x := slices.Clone(b)
				x[at] ^= byte(turn)
				if at >= head {
					mustRefuse(t, x, 0, api.ErrChunk)
				} else if got, end, e := Read(x, 0); len(got) != 0 || end != 0 || e != api.ErrChunk && e != api.ErrShort && e != api.ErrVint {
					t.Fatalf("the byte %d turned by %d: %v, %d, %v", at, turn, got, end, e)
				}
			}
		}
	}
}

func TestReadRefusesTheSumAlone(t *testing.T) { // 8.2: each bit of it, and the sum of other bytes
	l := steps(1, 1, 5)
	b := words(l)
	body := b[:len(b)-4]
	for bit := range 32 {
		x := slices.Clone(b)
		x[len(body)+bit/8] ^= 1 << (bit % 8)
		mustRefuse(t, x, 0, api.ErrChunk)
	}
	others := [][]byte{nil, body[:1], body[1:], body[2:], append([]byte{9}, body...)}
	for _, other := range others {
		x := sealed(other)
		mustRefuse(t, slices.Concat(body, x[len(x)-4:]), 0, api.ErrChunk)
	}
	mustRefuse(t, append(slices.Clone(body), 0, 0, 0, 0), 0, api.ErrChunk)
}

// first is the digits of a first sample of the time 10 and the value 5.
func first() string { return digits(10, 46) + digits(5, 64) }

func TestReadRefusesBits(t *testing.T) { // 8.2: with a right sum, bits that stand for no samples
	one, step := first(), "10"+digits(20, 7)
	for _, c := range []struct {
		what, digs string
		n          uint64
	}{
		{"no bits", "", 1},
		{"a part of the time", digits(10, 46)[:40], 1},
		{"a time alone", digits(10, 46) + "00", 1},
		{"a part of the value", one[:104], 1},
		{"one of two", one, 2},
		{"a second time cut off", one + "10", 2},
		{"a time beyond MaxTime", digits(api.MaxTime+1, 46) + digits(5, 64), 1},
		{"all ones", strings.Repeat("1", 120), 1},
		{"a time that is the last one's", one + "0" + "0", 2},
		{"a time below the last one", one + "10" + digits(1, 7) + "0", 2},
		{"a step with too many bits", one + "110" + digits(20, 12) + "0", 2},
		{"a step of nought with a mark", one + step + "0" + "10" + digits(0, 7) + "0", 3},
		{"a step beyond MaxTime", one + "1111" + digits(1<<47, 48) + "0", 2},
		{"a window where there is none", one + step + "10", 2},
		{"a difference that begins with a nought", one + step + "11" + digits(60, 6) + digits(1, 6) + "01", 2},
		{"a difference that ends with a nought", one + step + "11" + digits(60, 6) + digits(1, 6) + "10", 2},
		{"a difference beyond 64 bits", one + step + "11" + digits(63, 6) + digits(1, 6) + "11", 2},
		{"a window with noughts alone", one + step + "11" + digits(60, 6) + digits(3, 6) + "1111" + "0" + "10" + "0000", 3},
		{"a window that was not needed", one + step + "11" + digits(60, 6) + digits(3, 6) + "1111" + "0" + "11" + digits(61, 6) + digits(0, 6) + "1", 3},
	} {
		b := told(c.n, filled(c.digs))
		if l, end, e := Read(b, 0); len(l) != 0 || end != 0 || e != api.ErrChunk {
			t.Errorf("%s: %v, %d, %v, want ErrChunk", c.what, l, end, e)
		}
	}
	good := one + step + "11" + digits(60, 6) + digits(3, 6) + "1111" + "0" + "10" + "0100"
	want := []api.Sample{{T: 10, V: 5}, {T: 20, V: 5 ^ 15}, {T: 30, V: 5 ^ 15 ^ 4}}
	mustRead(t, told(3, filled(good)), 0, want, len(told(3, filled(good))))
}

func TestReadRefusesBytesOfBitsLeftOver(t *testing.T) { // 8.2: a byte and more, be they noughts or not
	for _, l := range goodLists()[:60] {
		bits := filled(wordsBits(l))
		for _, more := range [][]byte{{0}, {0, 0}, {128}, {1}, {0, 255}, make([]byte, 8), make([]byte, 9), make([]byte, 300), bits} {
			mustRefuse(t, told(uint64(len(l)), append(slices.Clone(bits), more...)), 0, api.ErrChunk)
		}
		mustRefuse(t, told(uint64(len(l)), bits[:len(bits)-1]), 0, api.ErrChunk)
	}
}

func TestReadRefusesAOneInTheRest(t *testing.T) { // 8.2: at every place of the last byte's rest, of every size
	var sizes [8]int
	for _, l := range goodLists() {
		digs := wordsBits(l)
		rest := (8 - len(digs)%8) % 8
		sizes[rest]++
		for k := range rest {
			bits := filled(digs)
			bits[len(bits)-1] ^= 1 << k
			mustRefuse(t, told(uint64(len(l)), bits), 0, api.ErrChunk)
		}
		mustRead(t, told(uint64(len(l)), filled(digs)), 0, l, len(words(l)))
	}
	for rest, n := range sizes {
		if n == 0 {
			t.Errorf("no list leaves %d bits", rest)
		}
	}
}

func TestReadByTheNumberOfSamples(t *testing.T) { // 8.2, 8.5: the last byte's noughts are more samples, if there are said to be
	l := steps(0, 10, 3)
	for k := range l {
		l[k].V = 9
	}
	digs := wordsBits(l) // 46 + 64, 9 + 1 and 1 + 1: six are left
	bits := filled(digs)
	if len(digs)%8 != 2 {
		t.Fatalf("%d bits", len(digs))
	}
	for n := 3; n <= 6; n++ {
		b := told(uint64(n), bits)
		mustRead(t, b, 0, append(slices.Clone(l), []api.Sample{{T: 30, V: 9}, {T: 40, V: 9}, {T: 50, V: 9}}[:n-3]...), len(b))
	}
	mustRefuse(t, told(7, bits), 0, api.ErrChunk)
	mustRefuse(t, told(2, bits), 0, api.ErrChunk) // eight are left
}

// oneWay says whether bytes are read; what is read has, put again, just those bytes.
func oneWay(t *testing.T, b []byte, at int) bool {
	t.Helper()
	l, end, e := Read(b, at)
	if e != api.OK {
		mustRefuse(t, b, at, e)
		return false
	}
	if len(l) < 1 || len(l) > api.MaxSamples || !bytes.Equal(words(l), b[at:end]) || !bytes.Equal(mustPut(t, l), b[at:end]) {
		t.Fatalf("Read(%x, %d) = %v, %d; put again: %x", b, at, l, end, words(l))
	}
	return true
}

func TestOneWay(t *testing.T) { // 8.5: bits that are changed, with a right sum
	r := rand.New(rand.NewSource(83))
	read, refused := 0, 0
	for range 20000 {
		l := drawn(r, 1+r.Intn(6))
		bits := filled(wordsBits(l))
		for range 1 + r.Intn(2) {
			bits[r.Intn(len(bits))] ^= 1 << r.Intn(8)
		}
		n := len(l) + r.Intn(3)/2
		if oneWay(t, append([]byte{9, 9}, told(uint64(n), bits)...), 2) {
			read++
		} else {
			refused++
		}
	}
	if read < 1000 || refused < 1000 {
		t.Errorf("%d were read, %d refused", read, refused)
	}
}

func TestOneWayOfAllSmallRests(t *testing.T) { // 8.5: each two bytes behind a first sample
	read := 0
	for x := range uint64(1 << 16) {
		bits := filled(first() + digits(x, 16) + "00")
		for n := range uint64(4) {
			if oneWay(t, told(n, bits), 0) {
				read++
			}
		}
	}
	if read < 100 {
		t.Errorf("%d were read", read)
	}
}

func TestCutSizes(t *testing.T) { // 8.3, 8.4: none, one, MaxSamples, one more, many
	for _, n := range []int{0, 1, 2, 119, 120, 121, 239, 240, 241, 360, 1000, api.MaxItems, api.MaxItems + 1, 3*api.MaxItems + 7} {
		l := steps(3, 7, n)
		parts, e := Cut(l)
		if e != api.OK || len(parts) != (n+119)/120 {
			t.Fatalf("Cut of %d samples: %d chunks, %v", n, len(parts), e)
		}
		for k, b := range parts {
			if want := words(l[k*120 : min(n, k*120+120)]); !bytes.Equal(b, want) {
				t.Fatalf("Cut of %d samples: the chunk %d is %x, want %x", n, k, b, want)
			}
		}
		if all, e := Join(parts...); e != api.OK || !slices.Equal(all, l) {
			t.Errorf("%d samples, cut and joined: %d, %v", n, len(all), e)
		}
	}
	for _, l := range [][]api.Sample{nil, {}} {
		if parts, e := Cut(l); len(parts) != 0 || e != api.OK {
			t.Errorf("Cut of none = %x, %v", parts, e)
		}
	}
}

func TestCutDrawn(t *testing.T) { // 8.3, 8.4
	r := rand.New(rand.NewSource(84))
	for range 100 {
		l := drawn(r, 1+r.Intn(500))
		parts, e := Cut(l)
		if e != api.OK || len(parts) != (len(l)+119)/120 {
			t.Fatalf("Cut of %d samples: %d chunks, %v", len(l), len(parts), e)
		}
		if all, e := Join(parts...); e != api.OK || !slices.Equal(all, l) {
			t.Fatalf("%v, cut and joined: %v, %v", l, all, e)
		}
	}
}

func TestCutRefusesTimes(t *testing.T) { // 8.3, P1: in a chunk, and from one to the next
	const n = 400
	for k := range n {
		for _, time := range append(wrongTimes(), 1000+10*(k-1), 1000+10*(k-1)-1, 0) {
			l := steps(1000, 10, n)
			l[k].T = time
			if k == 0 && time >= 0 && time <= 1000 {
				continue
			}
			if parts, e := Cut(l); len(parts) != 0 || e != api.ErrTime {
				t.Fatalf("the time %d at %d: %d chunks, %v, want ErrTime", time, k, len(parts), e)
			}
		}
	}
	for _, time := range wrongTimes() {
		if parts, e := Cut([]api.Sample{{T: time, V: 1}}); len(parts) != 0 || e != api.ErrTime {
			t.Errorf("the time %d alone: %x, %v", time, parts, e)
		}
	}
}

// mustRefuseJoin holds a refused Join against its error.
func mustRefuseJoin(t *testing.T, what string, want api.Errno, l ...[]byte) {
	t.Helper()
	if got, e := Join(l...); len(got) != 0 || e != want {
		t.Errorf("%s: %v, %v, want %v", what, got, e, want)
	}
}

func TestJoin(t *testing.T) { // 8.3: chunks need not be full
	l := steps(5, 3, 300)
	for _, cuts := range [][]int{{0}, {0, 1}, {0, 120}, {0, 1, 2, 3}, {0, 7, 127, 128, 248, 300}} {
		var parts [][]byte
		for k := range len(cuts) - 1 {
			parts = append(parts, words(l[cuts[k]:cuts[k+1]]))
		}
		if got, e := Join(parts...); e != api.OK || !slices.Equal(got, l[:cuts[len(cuts)-1]]) {
			t.Errorf("Join of %v: %v, %v", cuts, got, e)
		}
	}
	ends := []api.Sample{{T: 0, V: all}, {T: api.MaxTime, V: 0}}
	if got, e := Join(words(ends[:1]), words(ends[1:])); e != api.OK || !slices.Equal(got, ends) {
		t.Errorf("Join of the bounds: %v, %v", got, e)
	}
	if got, e := Join(); len(got) != 0 || e != api.OK {
		t.Errorf("Join of none: %v, %v", got, e)
	}
}

func TestJoinRefusesTimes(t *testing.T) { // 8.3, P1
	a, b := words(steps(10, 10, 3)), words(steps(40, 10, 3)) // 10 to 30, 40 to 60
	mustRefuseJoin(t, "the other way round", api.ErrChunk, b, a)
	mustRefuseJoin(t, "one twice", api.ErrChunk, a, a)
	mustRefuseJoin(t, "the last time again", api.ErrChunk, a, words(steps(30, 10, 3)))
	mustRefuseJoin(t, "a time below it", api.ErrChunk, a, words(steps(29, 10, 3)))
	mustRefuseJoin(t, "behind a right one", api.ErrChunk, a, b, words(steps(60, 1, 1)))
	mustRefuseJoin(t, "ahead of a right one", api.ErrChunk, a, words(steps(30, 1, 1)), b)
	if got, e := Join(a, words(steps(31, 1, 1)), b); e != api.OK || len(got) != 7 {
		t.Errorf("a time above it: %v, %v", got, e)
	}
}

func TestJoinRefusesBytes(t *testing.T) { // 8.3, P1
	a, b := words(steps(10, 10, 3)), words(steps(40, 10, 3))
	left := append(slices.Clone(a), 0)
	mustRefuseJoin(t, "a byte left", api.ErrChunk, left)
	mustRefuseJoin(t, "a byte left, and a chunk behind it", api.ErrChunk, left, b)
	mustRefuseJoin(t, "a byte left of the last one", api.ErrChunk, a, append(slices.Clone(b), 0))
	mustRefuseJoin(t, "a chunk left", api.ErrChunk, slices.Concat(a, b))
	mustRefuseJoin(t, "nil", api.ErrShort, nil)
	mustRefuseJoin(t, "an empty one behind", api.ErrShort, a, []byte{})
	for k := range b {
		mustRefuseJoin(t, "one cut off", api.ErrShort, a, b[:k])
		mustRefuseJoin(t, "one cut off ahead", api.ErrShort, b[:k], a)
	}
	turned := slices.Clone(b)
	turned[5] ^= 1
	mustRefuseJoin(t, "a bit turned", api.ErrChunk, a, turned)
	mustRefuseJoin(t, "no number", api.ErrVint, a, []byte{128, 0, 1})
	mustRefuseJoin(t, "none and no number", api.ErrShort, nil, []byte{128, 0, 1})
	mustRefuseJoin(t, "no number and none", api.ErrVint, []byte{128, 0, 1}, nil)
}

func TestJoinTellsReadsErrorsFirst(t *testing.T) { // 8.3, rule 1: of each, ahead of bytes left and times
	a, b := words(steps(10, 10, 3)), words(steps(40, 10, 3))
	left := append(slices.Clone(a), 0)
	mustRefuseJoin(t, "a byte left, then a short one", api.ErrShort, left, b[:9])
	mustRefuseJoin(t, "a byte left, then no number", api.ErrVint, left, []byte{128, 0, 1})
	mustRefuseJoin(t, "times that fall, then a short one", api.ErrShort, b, a, b[:9])
	mustRefuseJoin(t, "times that fall, then no number", api.ErrVint, b, a, []byte{128, 0, 1})
}

// wordsMerge is both lists as one, by a look at each time.
func wordsMerge(a, b []api.Sample) []api.Sample {
	values := map[int]uint64{}
	for _, s := range slices.Concat(a, b) {
		values[s.T] = s.V
	}
	var l []api.Sample
	for time, v := range values {
		l = append(l, api.Sample{T: time, V: v})
	}
	slices.SortFunc(l, func(x, y api.Sample) int { return cmp.Compare(x.T, y.T) })
	return l
}

func TestMerge(t *testing.T) { // 8.3: by hand
	l := steps(10, 10, 3) // 10, 20, 30
	for _, c := range []struct{ a, b, want []api.Sample }{
		{nil, nil, nil},
		{[]api.Sample{}, nil, nil},
		{l, nil, l},
		{nil, l, l},
		{l, l, l},
		{l, []api.Sample{{T: 15, V: 1}, {T: 20, V: 2}}, []api.Sample{l[0], {T: 15, V: 1}, {T: 20, V: 2}, l[2]}},
		{[]api.Sample{{T: 15, V: 1}, {T: 20, V: 9}}, l, []api.Sample{l[0], {T: 15, V: 1}, l[1], l[2]}},
		{[]api.Sample{{T: 10, V: 7}, {T: 30, V: 7}}, []api.Sample{{T: 10, V: 8}, {T: 30, V: 8}}, []api.Sample{{T: 10, V: 8}, {T: 30, V: 8}}},
		{l[:1], l[1:], l},
		{l[1:], l[:1], l},
		{[]api.Sample{{T: api.MaxTime, V: all}}, []api.Sample{{T: 0, V: 0}}, []api.Sample{{T: 0, V: 0}, {T: api.MaxTime, V: all}}},
		{[]api.Sample{{T: math.MinInt, V: 1}, {T: math.MaxInt, V: 2}}, []api.Sample{{T: math.MinInt, V: 3}, {T: 0, V: 4}}, []api.Sample{{T: math.MinInt, V: 3}, {T: 0, V: 4}, {T: math.MaxInt, V: 2}}},
	} {
		if got := Merge(c.a, c.b); !slices.Equal(got, c.want) {
			t.Errorf("Merge(%v, %v) = %v, want %v", c.a, c.b, got, c.want)
		}
	}
}

// rising are up to n samples of few times, so that two such lists have some in common.
func rising(r *rand.Rand, n int) []api.Sample {
	var l []api.Sample
	for time := range n {
		if r.Intn(2) == 0 {
			l = append(l, api.Sample{T: time, V: r.Uint64()})
		}
	}
	return l
}

func TestMergeDrawn(t *testing.T) { // 8.3, 8.6
	r := rand.New(rand.NewSource(85))
	for range 2000 {
		a, b := rising(r, r.Intn(30)), rising(r, r.Intn(30))
		m := Merge(a, b)
		if want := wordsMerge(a, b); !slices.Equal(m, want) {
			t.Fatalf("Merge(%v, %v) = %v, want %v", a, b, m, want)
		}
		for what, again := range map[string][]api.Sample{"a, m": Merge(a, m), "b, m": Merge(b, m), "m, b": Merge(m, b), "m, m": Merge(m, m), "m, none": Merge(m, nil), "none, m": Merge(nil, m)} {
			if !slices.Equal(again, m) {
				t.Fatalf("Merge(%v, %v) again, %s: %v, want %v", a, b, what, again, m)
			}
		}
		for k := range a { // with the values that b has, a changes nothing from behind either
			if i := slices.IndexFunc(b, func(s api.Sample) bool { return s.T == a[k].T }); i >= 0 {
				a[k] = b[i]
			}
		}
		if again := Merge(m, a); !slices.Equal(again, m) {
			t.Fatalf("Merge(%v, %v) = %v", m, a, again)
		}
	}
}

func TestMergeOfWhatDoesNotRise(t *testing.T) { // P1: it ends
	r := rand.New(rand.NewSource(86))
	for range 1000 {
		a, b := rising(r, 20), rising(r, 20)
		r.Shuffle(len(a), func(i, j int) { a[i], a[j] = a[j], a[i] })
		r.Shuffle(len(b), func(i, j int) { b[i], b[j] = b[j], b[i] })
		if n := len(Merge(a, b)); n < len(b) || n > len(a)+len(b) {
			t.Fatalf("Merge(%v, %v) has %d samples", a, b, n)
		}
	}
}

func TestMergedOfOtherThings(t *testing.T) { // the generic function: other members, another order
	down := func(x, y string) int { return cmp.Compare(y[:1], x[:1]) }
	got := merged([]string{"d1", "c1", "a1"}, []string{"c2", "b2"}, down)
	if want := []string{"d1", "c2", "b2", "a1"}; !slices.Equal(got, want) {
		t.Errorf("merged: %v, want %v", got, want)
	}
}

func TestWithin(t *testing.T) { // 8.3: by hand
	l := []api.Sample{{T: 0, V: 1}, {T: 10, V: all}, {T: 20, V: 0}, {T: api.MaxTime, V: 4}}
	for _, c := range []struct {
		r        api.Range
		from, to int
	}{
		{api.Range{From: 0, To: api.MaxTime}, 0, 4},
		{api.Range{From: math.MinInt, To: math.MaxInt}, 0, 4},
		{api.Range{From: 10, To: 10}, 1, 2},
		{api.Range{From: 9, To: 11}, 1, 2},
		{api.Range{From: 10, To: 20}, 1, 3},
		{api.Range{From: 11, To: 19}, 0, 0},
		{api.Range{From: 11, To: 20}, 2, 3},
		{api.Range{From: 10, To: 19}, 1, 2},
		{api.Range{From: 0, To: 0}, 0, 1},
		{api.Range{From: math.MinInt, To: 0}, 0, 1},
		{api.Range{From: math.MinInt, To: -1}, 0, 0},
		{api.Range{From: api.MaxTime, To: api.MaxTime}, 3, 4},
		{api.Range{From: api.MaxTime + 1, To: math.MaxInt}, 0, 0},
		{api.Range{From: 21, To: api.MaxTime - 1}, 0, 0},
		{api.Range{From: 20, To: 10}, 0, 0},
		{api.Range{From: math.MaxInt, To: math.MinInt}, 0, 0},
	} {
		if got := Within(l, c.r); !slices.Equal(got, l[c.from:c.to]) {
			t.Errorf("Within(%v) = %v, want %v", c.r, got, l[c.from:c.to])
		}
		for _, none := range [][]api.Sample{nil, {}} {
			if got := Within(none, c.r); len(got) != 0 {
				t.Errorf("Within of none, %v: %v", c.r, got)
			}
		}
	}
}

func TestWithinRangesOneBehindTheOther(t *testing.T) { // 8.3, 8.6
	r := rand.New(rand.NewSource(87))
	for range 200 {
		l := rising(r, 14)
		for from := -2; from < 16; from++ {
			for to := from - 1; to < 17; to++ {
				whole := Within(l, api.Range{From: from, To: to})
				for _, s := range l {
					if in := s.T >= from && s.T <= to; in != slices.Contains(whole, s) {
						t.Fatalf("Within(%v, %d to %d) = %v", l, from, to, whole)
					}
				}
				for cut := from - 1; cut <= to; cut++ {
					a, b := Within(l, api.Range{From: from, To: cut}), Within(l, api.Range{From: cut + 1, To: to})
					if !slices.Equal(slices.Concat(a, b), whole) {
						t.Fatalf("Within(%v, %d to %d to %d): %v, %v, want %v", l, from, cut, to, a, b, whole)
					}
				}
			}
		}
	}
}

func TestWithinOfWhatDoesNotRise(t *testing.T) { // 8.3: of any list, as it stands
	l := []api.Sample{{T: 5, V: 1}, {T: 1, V: 2}, {T: 5, V: 3}, {T: 9, V: 4}, {T: 3, V: 5}}
	if got := Within(l, api.Range{From: 3, To: 5}); !slices.Equal(got, []api.Sample{l[0], l[2], l[4]}) {
		t.Errorf("Within(%v, 3 to 5) = %v", l, got)
	}
}

// spoil writes over all samples, and over the room behind them.
func spoil(l []api.Sample) {
	l = l[:cap(l)]
	for k := range l {
		l[k] = api.Sample{T: -7, V: 7}
	}
}

// spoilBytes writes over all bytes, and over the room behind them.
func spoilBytes(b []byte) {
	b = b[:cap(b)]
	for k := range b {
		b[k] ^= 255
	}
}

func TestMemoryOfBytes(t *testing.T) { // rule 4: what is put and cut is not kept, and what is handed out is the caller's
	l := steps(3, 7, 250)
	kept := slices.Clone(l)
	b, want := mustPut(t, l[:100]), words(l[:100])
	parts, _ := Cut(l)
	if !slices.Equal(l, kept) {
		t.Fatal("samples were changed")
	}
	spoil(l)
	if !bytes.Equal(b, want) {
		t.Error("bytes changed with the samples")
	}
	spoilBytes(b)
	spoilBytes(parts[1])
	if !bytes.Equal(parts[0], words(kept[:120])) || !bytes.Equal(parts[2], words(kept[240:])) {
		t.Error("a chunk changed with another one")
	}
	if again := mustPut(t, kept[:100]); !bytes.Equal(again, want) {
		t.Errorf("Put again: %x, want %x", again, want)
	}
}

func TestMemoryOfABuilder(t *testing.T) { // rule 4: its bytes are the caller's, and more may be added behind them
	b, l := New(), steps(3, 7, 50)
	for k, s := range l {
		if e := b.Add(s); e != api.OK {
			t.Fatal(e)
		}
		x, _ := b.Bytes()
		elder, _ := b.Bytes()
		spoilBytes(x)
		if !bytes.Equal(elder, words(l[:k+1])) {
			t.Fatal("bytes changed with other ones")
		}
		mustHave(t, b, l[:k+1])
	}
}

func TestMemoryOfSamples(t *testing.T) { // rule 4: what is read and joined
	l := steps(3, 7, 250)
	parts, _ := Cut(l)
	kept := make([][]byte, len(parts))
	for k := range parts {
		kept[k] = slices.Clone(parts[k])
	}
	a, _, _ := Read(parts[0], 0)
	b, _, _ := Read(parts[0], 0)
	joined, _ := Join(parts...)
	one, _ := Join(parts[0])
	for k := range parts {
		if !bytes.Equal(parts[k], kept[k]) {
			t.Fatal("bytes were changed")
		}
		spoilBytes(parts[k])
	}
	spoil(b)
	if !slices.Equal(a, l[:120]) || !slices.Equal(joined, l) || !slices.Equal(one, l[:120]) {
		t.Error("samples changed with the bytes, or other samples")
	}
}

func TestMemoryOfLists(t *testing.T) { // rule 4: what is merged, and what is within
	whole := api.Range{From: 0, To: api.MaxTime}
	for _, make := range []func(l []api.Sample) []api.Sample{
		func(l []api.Sample) []api.Sample { return Merge(l, nil) },
		func(l []api.Sample) []api.Sample { return Merge(nil, l) },
		func(l []api.Sample) []api.Sample { return Merge(l, l[:3]) },
		func(l []api.Sample) []api.Sample { return Merge(l[:5], l[5:]) },
		func(l []api.Sample) []api.Sample { return Merge(l[5:], l[:5]) },
		func(l []api.Sample) []api.Sample { return Within(l, whole) },
	} {
		long := steps(3, 7, 20)
		l, kept := long[:10], slices.Clone(long)
		got, other := make(l), make(l)
		spoil(other)
		if !slices.Equal(long, kept) {
			t.Error("samples, or the room behind them, were changed")
		}
		spoil(l)
		if !slices.Equal(got, kept[:10]) {
			t.Errorf("a list changed with its samples: %v", got)
		}
	}
}

func FuzzRead(f *testing.F) { // P1, 8.2, 8.5
	f.Add(words(steps(10, 10, 2)), 0)
	f.Add(append([]byte{9}, words(wide(9))...), 1)
	f.Add([]byte{1, 255, 255, 255, 255, 255, 255, 255, 255, 255, 1, 0, 0, 0, 0}, 0)
	f.Add([]byte{}, -1)
	f.Fuzz(func(t *testing.T, b []byte, at int) {
		oneWay(t, b, at)
		if len(b) > 0 { // with a right sum, and a right number of bytes
			oneWay(t, told(uint64(b[0]), b[1:]), 0)
		}
	})
}

func FuzzPut(f *testing.F) { // P1, 8.1, 8.4
	f.Add(0, uint64(0), 1, uint64(all), api.MaxTime)
	f.Add(10, uint64(5), 20, uint64(5), 20)
	f.Add(-1, uint64(5), math.MaxInt, uint64(5), 20)
	f.Fuzz(func(t *testing.T, t1 int, v1 uint64, t2 int, v2 uint64, t3 int) {
		l := []api.Sample{{T: t1, V: v1}, {T: t2, V: v2}, {T: t3, V: v1}}
		if t1 < 0 || t1 >= t2 || t2 >= t3 || t3 > api.MaxTime {
			mustRefusePut(t, l, api.ErrTime)
			return
		}
		mustRead(t, mustPut(t, l), 0, l, len(words(l)))
	})
}
