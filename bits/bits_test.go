package bits

import (
	"bytes"
	"fmt"
	"math"
	"math/rand"
	"strings"
	"testing"

	"tidepole/api"
)

const all = math.MaxUint64

// digits is x as n digits 0 and 1, the highest first, as the chapter's words tell it.
func digits(x uint64, n int) string { return fmt.Sprintf("%064b", x)[64-n:] }

// packed is the bytes of such digits, the last one filled up with noughts.
func packed(s string) []byte {
	b := make([]byte, (len(s)+7)/8)
	for k := range len(s) {
		if s[k] == '1' {
			b[k/8] += 1 << (7 - k%8)
		}
	}
	return b
}

// unpacked is all digits of b.
func unpacked(b []byte) string {
	var s strings.Builder
	for _, x := range b {
		s.WriteString(digits(uint64(x), 8))
	}
	return s.String()
}

// value is the number that digits are.
func value(s string) uint64 {
	x := uint64(0)
	for _, c := range s {
		x = 2*x + uint64(c-'0')
	}
	return x
}

// numbers are numbers at the edges, and some that a fixed seed draws.
func numbers() []uint64 {
	l := []uint64{0, 1, 2, 3, 5, 0x55, 0xaa, 127, 128, 255, 256, 0xabcdef, 1 << 31, 1 << 32, 1<<63 - 1, 1 << 63, 1<<63 | 1, 0x5555555555555555, 0xaaaaaaaaaaaaaaaa, all - 1, all, api.Stale}
	r := rand.New(rand.NewSource(5))
	for range 12 {
		l = append(l, r.Uint64(), r.Uint64()>>r.Intn(64))
	}
	return l
}

// wrongSizes are those that no number may have.
func wrongSizes() []int {
	return []int{-1, -2, -8, -63, -64, -65, 65, 66, 72, 128, 256, 1 << 31, 1 << 32, 1<<32 + 1, 1 << 40, -1 << 31, -1 << 32, math.MaxInt, math.MaxInt - 1, math.MinInt, math.MinInt + 1}
}

// drawnBytes is n bytes that r draws.
func drawnBytes(r *rand.Rand, n int) []byte {
	b := make([]byte, n)
	r.Read(b)
	return b
}

// drawnSize is a number's size, the edges among them more often.
func drawnSize(r *rand.Rand) int {
	if r.Intn(4) == 0 {
		return []int{0, 1, 7, 8, 9, 63, 64}[r.Intn(7)]
	}
	return r.Intn(65)
}

// mustPut puts what must be taken.
func mustPut(t *testing.T, w *Writer, x uint64, n int) {
	t.Helper()
	if e := w.Put(x, n); e != api.OK {
		t.Fatalf("Put(%x, %d) behind %d bits: %v", x, n, w.Len(), e)
	}
}

// mustHave holds a writer against the digits it must have.
func mustHave(t *testing.T, what string, w *Writer, want string) {
	t.Helper()
	if got := w.Bytes(); !bytes.Equal(got, packed(want)) || w.Len() != len(want) {
		t.Fatalf("%s: %d bytes, %d bits, want %d bytes, %d bits", what, len(got), w.Len(), len(packed(want)), len(want))
	}
}

// mustStand holds a reader's place against the one where it must be.
func mustStand(t *testing.T, what string, r *Reader, at, left int) {
	t.Helper()
	if r.At() != at || r.Left() != left {
		t.Fatalf("%s: at %d, %d left, want %d, %d", what, r.At(), r.Left(), at, left)
	}
}

// mustGet holds the next number against the one it must be.
func mustGet(t *testing.T, r *Reader, n int, want uint64) {
	t.Helper()
	at, left := r.At(), r.Left()
	if x, e := r.Get(n); x != want || e != api.OK {
		t.Fatalf("Get(%d) at %d = %x, %v, want %x", n, at, x, e, want)
	}
	mustStand(t, "behind a number", r, at+n, left-n)
}

// filled is a writer that has all bits up to MaxBytes but room, and their digits.
func filled(t *testing.T, room int) (*Writer, string) {
	t.Helper()
	w, s := NewWriter(), strings.Repeat("10", (api.MaxBytes*8)/2)[room:]
	for at := 0; at < len(s); {
		n := min(64, len(s)-at)
		mustPut(t, w, value(s[at:at+n]), n)
		at += n
	}
	return w, s
}

func TestExample(t *testing.T) { // 5.1: the chapter's
	w := NewWriter()
	mustPut(t, w, 5, 3)
	mustPut(t, w, 1, 1)
	if b := w.Bytes(); !bytes.Equal(b, []byte{176}) || w.Len() != 4 {
		t.Errorf("5 of 3 bits, 1 of 1: %v, %d bits", b, w.Len())
	}
}

func TestWriterWithoutBits(t *testing.T) { // 5.1
	w := NewWriter()
	if b := w.Bytes(); len(b) != 0 || w.Len() != 0 {
		t.Errorf("a new writer has %v, %d bits", b, w.Len())
	}
	for _, x := range numbers() {
		mustPut(t, w, x, 0)
	}
	if b := w.Bytes(); len(b) != 0 || w.Len() != 0 {
		t.Errorf("numbers of no bits: %v, %d bits", b, w.Len())
	}
	other := NewWriter()
	mustPut(t, other, all, 9)
	mustHave(t, "a writer beside another", w, "")
	mustHave(t, "that other one", other, "111111111")
}

func TestHighestBitFirst(t *testing.T) { // 5.1: by hand
	for _, c := range []struct {
		x    uint64
		n    int
		want []byte
	}{
		{1, 1, []byte{128}},
		{0, 1, []byte{0}},
		{1, 2, []byte{64}},
		{1, 8, []byte{1}},
		{1, 9, []byte{0, 128}},
		{0x1234, 16, []byte{0x12, 0x34}},
		{0x1234, 12, []byte{0x23, 0x40}},
		{0x123456789abcdef0, 64, []byte{0x12, 0x34, 0x56, 0x78, 0x9a, 0xbc, 0xde, 0xf0}},
		{0x123456789abcdef0, 63, []byte{0x24, 0x68, 0xac, 0xf1, 0x35, 0x79, 0xbd, 0xe0}},
		{all, 63, []byte{255, 255, 255, 255, 255, 255, 255, 254}},
		{all, 64, []byte{255, 255, 255, 255, 255, 255, 255, 255}},
		{1 << 63, 64, []byte{128, 0, 0, 0, 0, 0, 0, 0}},
		{1 << 63, 63, []byte{0, 0, 0, 0, 0, 0, 0, 0}},
	} {
		w := NewWriter()
		mustPut(t, w, c.x, c.n)
		if b := w.Bytes(); !bytes.Equal(b, c.want) || w.Len() != c.n {
			t.Errorf("Put(%x, %d): %x, %d bits, want %x", c.x, c.n, b, w.Len(), c.want)
		}
	}
}

func TestPutByTheWords(t *testing.T) { // 5.1: each size, behind bits that end anywhere in a byte
	for ahead := range 18 {
		for n := range 65 {
			for _, x := range numbers() {
				w := NewWriter()
				mustPut(t, w, 0x15a5a, ahead)
				mustPut(t, w, x, n)
				mustPut(t, w, 5, 3)
				mustHave(t, fmt.Sprintf("%d bits ahead, Put(%x, %d)", ahead, x, n), w, digits(0x15a5a, ahead)+digits(x, n)+"101")
			}
		}
	}
}

func TestHigherBitsAreLeftOut(t *testing.T) { // 5.1
	for ahead := range 9 {
		for n := range 64 {
			for _, x := range numbers() {
				w, plain := NewWriter(), NewWriter()
				mustPut(t, w, 0, ahead)
				mustPut(t, plain, 0, ahead)
				mustPut(t, w, x|^uint64(0)<<n, n)
				mustPut(t, plain, x%(1<<n), n)
				if !bytes.Equal(w.Bytes(), plain.Bytes()) || w.Len() != plain.Len() {
					t.Fatalf("%d bits ahead, %x of %d bits: %x, want %x", ahead, x, n, w.Bytes(), plain.Bytes())
				}
			}
		}
	}
}

func TestPutInRows(t *testing.T) { // 5.1: the bytes and the length behind each one of many
	r := rand.New(rand.NewSource(51))
	for range 100 {
		w, want := NewWriter(), ""
		for range 60 {
			x, n := r.Uint64(), drawnSize(r)
			mustPut(t, w, x, n)
			want += digits(x, n)
			mustHave(t, "a row", w, want)
		}
	}
}

func TestPutRefusesSizes(t *testing.T) { // 5.1, P1, P2
	for _, n := range wrongSizes() {
		for ahead := range 10 {
			w := NewWriter()
			mustPut(t, w, 0x2aa, ahead)
			for _, x := range []uint64{0, 1, all} {
				if e := w.Put(x, n); e != api.ErrArg {
					t.Fatalf("Put(%x, %d) = %v, want ErrArg", x, n, e)
				}
				mustHave(t, "a refused Put", w, digits(0x2aa, ahead))
			}
			mustPut(t, w, 3, 3)
			mustHave(t, "behind a refused Put", w, digits(0x2aa, ahead)+"011")
		}
	}
}

func TestPutUpToTheEnd(t *testing.T) { // 5.1, P2: each room that is left, filled, and one bit more
	for room := range 65 {
		w, s := filled(t, room)
		for n := room + 1; n <= 64; n++ {
			if e := w.Put(all, n); e != api.ErrLong {
				t.Fatalf("Put of %d bits where there is room for %d: %v, want ErrLong", n, room, e)
			}
		}
		mustHave(t, "a refused Put", w, s)
		mustPut(t, w, 0x9249249249249249, room)
		mustHave(t, "full", w, s+digits(0x9249249249249249, room))
		if w.Len() != api.MaxBytes*8 || len(w.Bytes()) != api.MaxBytes {
			t.Fatalf("full: %d bits, %d bytes", w.Len(), len(w.Bytes()))
		}
	}
}

func TestFullWriter(t *testing.T) { // 5.1, P1, P2
	w, s := filled(t, 0)
	for n := 1; n <= 64; n++ {
		for _, x := range []uint64{0, 1, all} {
			if e := w.Put(x, n); e != api.ErrLong {
				t.Fatalf("Put(%x, %d) where there is no room: %v, want ErrLong", x, n, e)
			}
		}
	}
	for _, n := range wrongSizes() { // the first error named
		if e := w.Put(all, n); e != api.ErrArg {
			t.Fatalf("Put(all, %d) where there is no room: %v, want ErrArg", n, e)
		}
	}
	mustPut(t, w, all, 0)
	mustHave(t, "full", w, s)
}

func TestFullBitByBit(t *testing.T) { // 5.1
	w := NewWriter()
	for k := range api.MaxBytes * 8 {
		mustPut(t, w, uint64(k%3), 1)
	}
	if e := w.Put(1, 1); e != api.ErrLong {
		t.Errorf("one bit more: %v, want ErrLong", e)
	}
	if b := w.Bytes(); len(b) != api.MaxBytes || w.Len() != api.MaxBytes*8 || !bytes.Equal(b[:4], []byte{0x49, 0x24, 0x92, 0x49}) {
		t.Errorf("full: %d bytes, %d bits, %x ..", len(b), w.Len(), b[:4])
	}
}

func TestReaderWithoutBytes(t *testing.T) { // 5.2, P1, P2
	for _, b := range [][]byte{nil, {}, make([]byte, 0, 9)} {
		r := NewReader(b)
		mustStand(t, "no bytes", r, 0, 0)
		for n := 1; n <= 64; n++ {
			if x, e := r.Get(n); x != 0 || e != api.ErrBits {
				t.Fatalf("Get(%d) of no bytes = %d, %v, want ErrBits", n, x, e)
			}
		}
		for _, n := range wrongSizes() {
			if x, e := r.Get(n); x != 0 || e != api.ErrArg {
				t.Fatalf("Get(%d) of no bytes = %d, %v, want ErrArg", n, x, e)
			}
		}
		mustGet(t, r, 0, 0)
		mustStand(t, "no bytes", r, 0, 0)
	}
}

func TestGetByHand(t *testing.T) { // 5.2
	r := NewReader([]byte{176, 0x0f, 0x81})
	mustStand(t, "new", r, 0, 24)
	mustGet(t, r, 3, 5)
	mustGet(t, r, 1, 1)
	mustGet(t, r, 0, 0)
	mustGet(t, r, 4, 0)
	mustGet(t, r, 8, 0x0f)
	mustGet(t, r, 7, 0x40)
	mustGet(t, r, 1, 1)
	mustStand(t, "the end", r, 24, 0)
}

func TestGetByTheWords(t *testing.T) { // 5.2: each size, at each place of a byte and of the next ones
	b := drawnBytes(rand.New(rand.NewSource(52)), 12)
	s := unpacked(b)
	for at := range 33 {
		for n := range 65 {
			r := NewReader(b)
			mustGet(t, r, at, value(s[:at]))
			mustGet(t, r, n, value(s[at:at+n]))
			mustStand(t, "behind a number", r, at+n, len(s)-at-n)
		}
	}
}

func TestGetInRows(t *testing.T) { // 5.2
	r := rand.New(rand.NewSource(53))
	for range 200 {
		b := drawnBytes(r, r.Intn(60))
		in, s, at := NewReader(b), unpacked(b), 0
		for range 40 {
			n := drawnSize(r)
			if n > len(s)-at {
				if x, e := in.Get(n); x != 0 || e != api.ErrBits {
					t.Fatalf("Get(%d) of %d bits = %x, %v, want ErrBits", n, len(s)-at, x, e)
				}
				mustStand(t, "a refused Get", in, at, len(s)-at)
				continue
			}
			mustGet(t, in, n, value(s[at:at+n]))
			at += n
		}
	}
}

func TestGetRefusesSizes(t *testing.T) { // 5.2, P1, P2: however many bits are left
	b := []byte{0xa5, 0x5a, 0xff}
	for at := range len(b)*8 + 1 {
		r := NewReader(b)
		mustGet(t, r, at, value(unpacked(b)[:at]))
		for _, n := range wrongSizes() {
			if x, e := r.Get(n); x != 0 || e != api.ErrArg {
				t.Fatalf("Get(%d) = %d, %v, want ErrArg", n, x, e)
			}
			mustStand(t, "a refused Get", r, at, len(b)*8-at)
		}
		mustGet(t, r, len(b)*8-at, value(unpacked(b)[at:]))
	}
}

func TestGetUpToTheEnd(t *testing.T) { // 5.2, P2: each number of bits that are left, and one more
	b := drawnBytes(rand.New(rand.NewSource(54)), 16)
	s := unpacked(b)
	for left := range 65 {
		r := NewReader(b)
		for rest := len(s) - left; rest > 0; rest -= min(rest, 64) {
			at := r.At()
			mustGet(t, r, min(rest, 64), value(s[at:at+min(rest, 64)]))
		}
		for n := left + 1; n <= 64; n++ {
			if x, e := r.Get(n); x != 0 || e != api.ErrBits {
				t.Fatalf("Get(%d) of %d bits = %x, %v, want ErrBits", n, left, x, e)
			}
			mustStand(t, "a refused Get", r, len(s)-left, left)
		}
		mustGet(t, r, left, value(s[len(s)-left:]))
		mustStand(t, "the end", r, len(s), 0)
		mustGet(t, r, 0, 0)
		if x, e := r.Get(1); x != 0 || e != api.ErrBits {
			t.Fatalf("Get(1) at the end = %d, %v, want ErrBits", x, e)
		}
	}
}

func TestReaderOfMany(t *testing.T) { // 5.2: a reader's bytes have no bound
	r := rand.New(rand.NewSource(55))
	for _, size := range []int{api.MaxBytes - 1, api.MaxBytes, api.MaxBytes + 1, 3*api.MaxBytes + 5} {
		b := drawnBytes(r, size)
		in := NewReader(b)
		mustStand(t, "new", in, 0, size*8)
		for k := range b {
			mustGet(t, in, 8, uint64(b[k]))
		}
		mustStand(t, "the end", in, size*8, 0)
	}
}

func TestWriterThatNoCallMade(t *testing.T) { // P1, P2, rule 2
	var none *Writer
	var plain Writer
	for what, w := range map[string]*Writer{"nil": none, "plain": &plain, "new": new(Writer), "literal": {}} {
		for _, n := range append(wrongSizes(), 0, 1, 8, 63, 64) {
			for _, x := range []uint64{0, 1, all} {
				if e := w.Put(x, n); e != api.ErrNil {
					t.Errorf("%s: Put(%x, %d) = %v, want ErrNil", what, x, n, e)
				}
			}
		}
		if b := w.Bytes(); len(b) != 0 || w.Len() != 0 {
			t.Errorf("%s: %v, %d bits", what, b, w.Len())
		}
	}
}

func TestReaderThatNoCallMade(t *testing.T) { // P1, P2, rule 2
	var none *Reader
	var plain Reader
	for what, r := range map[string]*Reader{"nil": none, "plain": &plain, "new": new(Reader), "literal": {}} {
		for _, n := range append(wrongSizes(), 0, 1, 8, 63, 64) {
			if x, e := r.Get(n); x != 0 || e != api.ErrNil {
				t.Errorf("%s: Get(%d) = %d, %v, want ErrNil", what, n, x, e)
			}
		}
		mustStand(t, what, r, 0, 0)
	}
}

func TestBytesAreTheCallersOwn(t *testing.T) { // 5.1, rule 4
	for n := range 65 {
		w := NewWriter()
		mustPut(t, w, 0x123456789abcdef1, n)
		want := digits(0x123456789abcdef1, n)
		first := w.Bytes()
		for k := range first {
			first[k] = ^first[k]
		}
		_ = append(first, 255)
		clear(first[:cap(first)])
		mustHave(t, "bytes changed by the caller", w, want)

		second := w.Bytes()
		mustPut(t, w, all, 64)
		if !bytes.Equal(second, packed(want)) {
			t.Fatalf("bytes changed by a Put behind them: %x, want %x", second, packed(want))
		}
		full := second[:cap(second)]
		for k := range full {
			full[k] = 77
		}
		mustHave(t, "bytes changed behind a Put", w, want+digits(all, 64))
		mustPut(t, w, 1, 2)
		mustHave(t, "and one more", w, want+digits(all, 64)+"01")
	}
}

func TestReaderKeepsNothing(t *testing.T) { // 5.2, rule 4
	held := bytes.Repeat([]byte{77}, 40)
	copy(held, []byte{1, 2, 3})
	before := bytes.Clone(held)
	b := held[:3]
	r, other := NewReader(b), NewReader(b)
	mustGet(t, r, 5, 0)
	if !bytes.Equal(held, before) {
		t.Errorf("what was handed in was changed: %v", held)
	}
	clear(held)
	_ = append(b, 255)
	mustStand(t, "bytes changed by the caller", r, 5, 19)
	mustGet(t, r, 19, 0x10203)
	mustStand(t, "a reader beside another", other, 0, 24)
	mustGet(t, other, 24, 0x10203)
}

// put is a number that was put, and its size.
type put struct {
	x uint64
	n int
}

func TestBack(t *testing.T) { // 5.3
	r := rand.New(rand.NewSource(56))
	for range 300 {
		w, bits := NewWriter(), 0
		var l []put
		for range r.Intn(80) {
			p := put{r.Uint64(), drawnSize(r)}
			mustPut(t, w, p.x, p.n)
			l = append(l, p)
			bits += p.n
		}
		in := NewReader(w.Bytes())
		mustStand(t, "new", in, 0, (bits+7)/8*8)
		for _, p := range l {
			mustGet(t, in, p.n, value(digits(p.x, p.n)))
		}
		mustStand(t, "behind all", in, w.Len(), (bits+7)/8*8-bits)
		mustGet(t, in, in.Left(), 0) // the last byte's other bits
	}
}

func TestBackWithRefusals(t *testing.T) { // 5.3, P2: what is refused leaves no gap, on either side
	w := NewWriter()
	for k := range 500 {
		mustPut(t, w, uint64(k), 9)
		w.Put(all, -1)
		w.Put(all, 65)
		w.Put(all, 0)
	}
	r := NewReader(w.Bytes())
	for k := range 500 {
		mustGet(t, r, 9, uint64(k))
		r.Get(-1)
		r.Get(65)
		r.Get(0)
	}
	mustStand(t, "behind all", r, 4500, 4)
}

func TestOneNumberOfAllBits(t *testing.T) { // 5.4: in two, put and got
	for ahead := range 9 {
		for n := range 65 {
			for first := range n + 1 {
				x := uint64(0xc3a5f00d12345679) >> (ahead * 2)
				whole, split := NewWriter(), NewWriter()
				mustPut(t, whole, 0x155, ahead)
				mustPut(t, whole, x, n)
				mustPut(t, split, 0x155, ahead)
				mustPut(t, split, x>>(n-first), first)
				mustPut(t, split, x, n-first)
				if !bytes.Equal(whole.Bytes(), split.Bytes()) || whole.Len() != split.Len() {
					t.Fatalf("%d bits, %d first: %x, want %x", n, first, split.Bytes(), whole.Bytes())
				}
				r := NewReader(whole.Bytes())
				r.Get(ahead)
				a, _ := r.Get(first)
				b, _ := r.Get(n - first)
				if got, want := a<<(n-first)|b, value(digits(x, n)); got != want {
					t.Fatalf("%d bits, %d first: %x, want %x", n, first, got, want)
				}
			}
		}
	}
}

func TestAsFarAsThereIsRoom(t *testing.T) { // 5.4, at the end of a writer
	for room := range 64 {
		whole, s := filled(t, room)
		split, _ := filled(t, room)
		if e := whole.Put(all, room+1); e != api.ErrLong {
			t.Fatalf("room for %d, one bit more: %v, want ErrLong", room, e)
		}
		for range room {
			mustPut(t, split, all, 1)
		}
		if e := split.Put(all, 1); e != api.ErrLong {
			t.Fatalf("room for %d, bit by bit, one more: %v, want ErrLong", room, e)
		}
		mustHave(t, "whole", whole, s)
		mustPut(t, whole, all, room)
		mustHave(t, "whole", whole, s+digits(all, room))
		mustHave(t, "split", split, s+digits(all, room))
	}
}

func TestReadAndWrittenAgain(t *testing.T) { // 5.5
	r := rand.New(rand.NewSource(57))
	for range 500 {
		b := drawnBytes(r, r.Intn(40))
		in, w := NewReader(b), NewWriter()
		for range 30 {
			n := drawnSize(r)
			x, e := in.Get(n)
			if e == api.OK {
				mustPut(t, w, x, n)
			}
			mustHave(t, "written again", w, unpacked(b)[:in.At()])
		}
		for in.Left() > 0 {
			n := min(in.Left(), 1+r.Intn(64))
			x, _ := in.Get(n)
			mustPut(t, w, x, n)
		}
		if got := w.Bytes(); !bytes.Equal(got, b) || w.Len() != in.At() {
			t.Fatalf("all written again: %x, want %x", got, b)
		}
	}
}

func TestFullReadAndWrittenAgain(t *testing.T) { // 5.5, as much as a writer may have
	b := drawnBytes(rand.New(rand.NewSource(58)), api.MaxBytes)
	for _, size := range []int{1, 7, 13, 63, 64} {
		in, w := NewReader(b), NewWriter()
		for in.Left() > 0 {
			n := min(in.Left(), size)
			x, _ := in.Get(n)
			mustPut(t, w, x, n)
		}
		if !bytes.Equal(w.Bytes(), b) {
			t.Errorf("pieces of %d bits, written again, are other bytes", size)
		}
	}
}

func FuzzPieces(f *testing.F) { // 5.2, 5.5, P1: any bytes, in any pieces
	f.Add([]byte{176}, []byte{3, 1, 4, 1})
	f.Add([]byte{1, 2, 3, 4, 5, 6, 7, 8, 9}, []byte{64, 0, 65, 255, 8})
	f.Add([]byte{}, []byte{0, 1})
	f.Fuzz(func(t *testing.T, b, sizes []byte) {
		r, w := NewReader(b), NewWriter()
		for _, size := range sizes {
			n, at := int(int8(size)), r.At()
			x, e := r.Get(n)
			want := api.OK
			switch {
			case n < 0 || n > 64:
				want = api.ErrArg
			case n > len(b)*8-at:
				want = api.ErrBits
			}
			if e != want || e != api.OK && (x != 0 || r.At() != at) {
				t.Fatalf("Get(%d) at %d of %d bytes = %x, %v, want %v", n, at, len(b), x, e, want)
			}
			if e == api.OK && w.Put(x, n) == api.OK {
				mustStand(t, "behind a number", r, at+n, len(b)*8-at-n)
			}
		}
		if len(b) <= api.MaxBytes {
			mustHave(t, "written again", w, unpacked(b)[:r.At()])
		}
	})
}
