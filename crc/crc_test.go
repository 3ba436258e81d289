package crc

import (
	"bytes"
	"encoding/binary"
	"hash/crc32"
	"math"
	"math/rand"
	"testing"

	"tidepole/api"
)

const digits = "123456789"

// byTheWords is the sum as the chapter's words tell it, bit by bit.
func byTheWords(b []byte) uint32 {
	reg := uint32(math.MaxUint32)
	for _, x := range b {
		reg ^= uint32(x)
		for range 8 {
			gone := reg & 1
			reg >>= 1
			if gone == 1 {
				reg ^= 0x82F63B78
			}
		}
	}
	return ^reg
}

// texts are bytes of all kinds: none, each single one, and longer ones that a fixed seed draws.
func texts() [][]byte {
	l := [][]byte{nil, {}, []byte(digits), make([]byte, 4), make([]byte, 100), bytes.Repeat([]byte{255}, 100)}
	for x := range 256 {
		l = append(l, []byte{byte(x)})
	}
	r := rand.New(rand.NewSource(2))
	for _, n := range []int{2, 3, 4, 5, 7, 8, 15, 16, 17, 31, 32, 33, 255, 256, 257, 511, 512, 513, 4096} {
		b := make([]byte, n)
		r.Read(b)
		l = append(l, b)
	}
	return l
}

func TestKnownSums(t *testing.T) { // 2.1, the chapter's example, and those of RFC 3720
	rising := make([]byte, 32)
	for i := range rising {
		rising[i] = byte(i)
	}
	for _, c := range []struct {
		b    []byte
		want uint32
	}{
		{nil, 0},
		{[]byte{}, 0},
		{[]byte(digits), 0xe3069283},
		{make([]byte, 32), 0x8a9136aa},
		{bytes.Repeat([]byte{255}, 32), 0x62a8ab43},
		{rising, 0x46dd794e},
	} {
		if got := Sum(c.b); got != c.want {
			t.Errorf("Sum(%v) = %08x, want %08x", c.b, got, c.want)
		}
	}
}

func TestSumByTheWords(t *testing.T) { // 2.1
	table := crc32.MakeTable(crc32.Castagnoli)
	for _, b := range texts() {
		got := Sum(b)
		if want := byTheWords(b); got != want {
			t.Errorf("Sum of %d bytes = %08x, want %08x", len(b), got, want)
		}
		if want := crc32.Checksum(b, table); got != want {
			t.Errorf("Sum of %d bytes = %08x, and the library has %08x", len(b), got, want)
		}
	}
}

func TestMoreGoesOn(t *testing.T) { // 2.1, 2.3
	for _, a := range texts() {
		for _, b := range texts() {
			want := byTheWords(append(bytes.Clone(a), b...))
			if got := More(Sum(a), b); got != want {
				t.Fatalf("More of %d and %d bytes = %08x, want %08x", len(a), len(b), got, want)
			}
		}
	}
}

func TestMoreOfAnySum(t *testing.T) { // 2.1: a sum need not be one that was seen
	table := crc32.MakeTable(crc32.Castagnoli)
	for _, sum := range []uint32{0, 1, 0x80000000, math.MaxUint32, 0xe3069283} {
		for _, b := range texts() {
			if got, want := More(sum, b), crc32.Update(sum, table, b); got != want {
				t.Errorf("More(%08x, %d bytes) = %08x, want %08x", sum, len(b), got, want)
			}
		}
		if got := More(sum, nil); got != sum {
			t.Errorf("More(%08x, nil) = %08x", sum, got)
		}
	}
}

func TestJoinOfBoth(t *testing.T) { // 2.1, 2.3
	for _, a := range texts() {
		for _, b := range texts() {
			want := More(Sum(a), b)
			if got, e := Join(Sum(a), Sum(b), len(b)); got != want || e != api.OK {
				t.Fatalf("Join of %d and %d bytes = %08x, %d, want %08x", len(a), len(b), got, e, want)
			}
		}
	}
}

func TestJoinAtEachCut(t *testing.T) { // 2.3
	b := []byte(digits)
	for k := range len(b) + 1 {
		if got := More(Sum(b[:k]), b[k:]); got != 0xe3069283 {
			t.Errorf("More, cut at %d: %08x", k, got)
		}
		if got, e := Join(Sum(b[:k]), Sum(b[k:]), len(b)-k); got != 0xe3069283 || e != api.OK {
			t.Errorf("Join, cut at %d: %08x, %d", k, got, e)
		}
	}
}

func TestJoinOfFew(t *testing.T) { // 2.1: no bytes, and one
	for _, a := range []uint32{0, 1, 0x80000000, 0xe3069283, math.MaxUint32} {
		if got, e := Join(a, 0, 0); got != a || e != api.OK {
			t.Errorf("Join(%08x, 0, 0) = %08x, %d", a, got, e)
		}
		for x := range 256 {
			b := []byte{byte(x)}
			if got, e := Join(a, Sum(b), 1); got != More(a, b) || e != api.OK {
				t.Errorf("Join(%08x, .., 1) of byte %d = %08x, %d, want %08x", a, x, got, e, More(a, b))
			}
			if got, e := Join(0, Sum(b), 1); got != Sum(b) || e != api.OK {
				t.Errorf("Join of none and byte %d = %08x, %d", x, got, e)
			}
		}
	}
}

// zeros is the sum of so many bytes of 0, 2^k and the rest, put together from halves by the words of Join alone.
func zeros(t *testing.T, n int) uint32 {
	t.Helper()
	sum, part := uint32(0), byTheWords([]byte{0})
	for k := range 63 {
		if n>>k&1 == 1 {
			joined, e := Join(sum, part, 1<<k)
			if e != api.OK {
				t.Fatalf("Join with 2^%d: error %d", k, e)
			}
			sum = joined
		}
		if k < 62 {
			part, _ = Join(part, part, 1<<k)
		}
	}
	return sum
}

func TestJoinOfMany(t *testing.T) { // 2.1: any number, by squares
	for _, n := range []int{1 << 16, 1<<20 + 7} {
		if got, want := zeros(t, n), byTheWords(make([]byte, n)); got != want {
			t.Errorf("sum of %d bytes of 0 = %08x, want %08x", n, got, want)
		}
	}
	// The polynomial is x + 1 times a primitive one of degree 31: powers of x come round behind 2^31 - 1 steps, and so do those of x^8.
	const round = 1<<31 - 1
	for _, n := range []int{0, 1, 5, 1000, 1 << 20} {
		for _, a := range []uint32{0, 1, 0xe3069283, math.MaxUint32} {
			want, _ := Join(a, 77, n)
			most := n + round*((math.MaxInt-n)/round)
			for _, far := range []int{n + round, n + 2*round, n + round<<20, most} {
				if got, e := Join(a, 77, far); got != want || e != api.OK {
					t.Errorf("Join(%08x, 77, %d) = %08x, %d, want %08x", a, far, got, e, want)
				}
			}
		}
	}
	// 2^63 - 1 = (2^31 - 1)·2^32 + 2^32 - 1, and 2^32 - 1 = 2·(2^31 - 1) + 1: as one byte.
	for _, a := range []uint32{0, 1, 0xe3069283} {
		want, _ := Join(a, 5, 1)
		if got, e := Join(a, 5, math.MaxInt); got != want || e != api.OK {
			t.Errorf("Join(%08x, 5, 2^63 - 1) = %08x, %d, want %08x", a, got, e, want)
		}
	}
}

func TestJoinBelowZero(t *testing.T) { // 2.1, P1
	for _, n := range []int{-1, -2, -8, math.MinInt + 1, math.MinInt} {
		if got, e := Join(1, 2, n); got != 0 || e != api.ErrArg {
			t.Errorf("Join(1, 2, %d) = %08x, %d, want error %d", n, got, e, api.ErrArg)
		}
	}
}

func TestPutAndRead(t *testing.T) { // 2.2
	for _, c := range []struct {
		sum  uint32
		want []byte
	}{
		{0, []byte{0, 0, 0, 0}},
		{1, []byte{1, 0, 0, 0}},
		{0x04030201, []byte{1, 2, 3, 4}},
		{0xe3069283, []byte{0x83, 0x92, 0x06, 0xe3}},
		{math.MaxUint32, []byte{255, 255, 255, 255}},
	} {
		for _, b := range [][]byte{nil, {}, {9}, {9, 8, 7, 6, 5}} {
			want := append(bytes.Clone(b), c.want...)
			if got := Put(b, c.sum); !bytes.Equal(got, want) {
				t.Errorf("Put(%v, %08x) = %v, want %v", b, c.sum, got, want)
			}
		}
		if got, e := Read(c.want); got != c.sum || e != api.OK {
			t.Errorf("Read(%v) = %08x, %d, want %08x", c.want, got, e, c.sum)
		}
		if got, e := Read(append(bytes.Clone(c.want), 77, 78)); got != c.sum || e != api.OK {
			t.Errorf("Read(%v 77 78) = %08x, %d, want %08x", c.want, got, e, c.sum)
		}
	}
}

func TestReadTooFew(t *testing.T) { // 2.2, P1
	for n := range 4 {
		if got, e := Read(bytes.Repeat([]byte{7}, n)); got != 0 || e != api.ErrShort {
			t.Errorf("Read of %d bytes = %08x, %d, want error %d", n, got, e, api.ErrShort)
		}
	}
	if got, e := Read(nil); got != 0 || e != api.ErrShort {
		t.Errorf("Read(nil) = %08x, %d", got, e)
	}
}

func TestSealedIsOpened(t *testing.T) { // 2.2, 2.5
	for _, b := range texts() {
		s := Sealed(b)
		if want := binary.LittleEndian.AppendUint32(bytes.Clone(b), byTheWords(b)); !bytes.Equal(s, want) {
			t.Errorf("Sealed of %d bytes = %v, want %v", len(b), s, want)
		}
		if got, ok := Open(s); !bytes.Equal(got, b) || !ok {
			t.Errorf("Open of %d bytes and their sum = %v, %t", len(b), got, ok)
		}
		if got, ok := Open(Sealed(s)); !bytes.Equal(got, s) || !ok {
			t.Errorf("sealed twice, %d bytes: %v, %t", len(b), got, ok)
		}
	}
}

func TestOpenRefuses(t *testing.T) { // 2.2, P1
	for n := range 4 {
		if got, ok := Open(make([]byte, n)); got != nil || ok {
			t.Errorf("Open of %d bytes = %v, %t", n, got, ok)
		}
	}
	if got, ok := Open(nil); got != nil || ok {
		t.Errorf("Open(nil) = %v, %t", got, ok)
	}
	if got, ok := Open(make([]byte, 4)); len(got) != 0 || !ok {
		t.Errorf("Open of the sum of nothing = %v, %t", got, ok)
	}
	for _, b := range [][]byte{nil, {0}, []byte(digits), make([]byte, 100)} {
		s := Sealed(b)
		for at := range s {
			for by := 1; by < 256; by++ {
				s[at] ^= byte(by)
				if got, ok := Open(s); got != nil || ok {
					t.Errorf("Open with byte %d of %d turned by %d = %v, %t", at, len(s), by, got, ok)
				}
				s[at] ^= byte(by)
			}
		}
		if got, ok := Open(s[:len(s)-1]); got != nil || ok {
			t.Errorf("Open of %d bytes without the last one = %v, %t", len(s), got, ok)
		}
		if got, ok := Open(append(s, 1)); got != nil || ok {
			t.Errorf("Open of %d bytes and one behind = %v, %t", len(s), got, ok)
		}
	}
}

// turned is b with the bits of mask turned from the bit at on.
func turned(b []byte, at int, mask uint32) []byte {
	out := bytes.Clone(b)
	for k := range 32 {
		if mask>>k&1 == 1 {
			out[(at+k)/8] ^= 1 << ((at + k) % 8)
		}
	}
	return out
}

func TestTurnedBitsAreFound(t *testing.T) { // 2.4
	r := rand.New(rand.NewSource(24))
	for _, n := range []int{1, 4, 5, 9, 64, 512} {
		b := make([]byte, n)
		r.Read(b)
		sum := Sum(b)
		for at := range 8 * n {
			for width := 1; width <= min(32, 8*n-at); width++ {
				ends := uint32(1)<<(width-1) | 1
				inner := r.Uint32() & (1<<(width-1) - 1)
				for _, mask := range []uint32{ends, ends | inner, uint32(1<<width - 1)} {
					if Sum(turned(b, at, mask)) == sum {
						t.Fatalf("of %d bytes, bits %b from bit %d on turned: the same sum", n, mask, at)
					}
				}
			}
		}
	}
}

func TestRegistersMayBeLeft(t *testing.T) { // the iterator ends where the loop over it does
	var seen []uint32
	for reg := range registers(math.MaxUint32, []byte(digits)) {
		seen = append(seen, ^reg)
		if len(seen) == 3 {
			break
		}
	}
	if len(seen) != 3 || seen[2] != Sum([]byte(digits[:3])) {
		t.Errorf("registers behind the first bytes: %08x", seen)
	}
}

// roomy is 1 2 3 with bytes of others behind it that are in reach of append.
func roomy() (b, all []byte) {
	all = bytes.Repeat([]byte{77}, 40)
	copy(all, []byte{1, 2, 3})
	return all[:3], all
}

func TestCallsLeaveTheirArguments(t *testing.T) { // P2: not even the room behind b is written to
	b, all := roomy()
	before := bytes.Clone(all)
	for _, out := range [][]byte{Put(b, 5), Sealed(b)} {
		clear(out)
		_ = append(out, 99)
	}
	Sum(b)
	More(9, b)
	Read(all)
	Open(b)
	Open(all)
	if !bytes.Equal(all, before) {
		t.Errorf("memory is shared with an argument: %v", all)
	}
	s := Sealed([]byte{1, 2, 3})
	before = bytes.Clone(s)
	got, _ := Open(s)
	clear(got)
	_ = append(got, 99)
	if !bytes.Equal(s, before) {
		t.Errorf("Open shares memory with its argument: %v", s)
	}
}

func FuzzSums(f *testing.F) { // 2.1 to 2.5, P1
	f.Add([]byte(digits), 4, 0)
	f.Add([]byte{}, 0, -1)
	f.Add(make([]byte, 4), 1, math.MaxInt)
	f.Fuzz(func(t *testing.T, b []byte, cut int, n int) {
		sum := byTheWords(b)
		if Sum(b) != sum {
			t.Fatalf("Sum(%v) = %08x, want %08x", b, Sum(b), sum)
		}
		k := int(uint(cut) % uint(len(b)+1))
		joined, e := Join(Sum(b[:k]), Sum(b[k:]), len(b)-k)
		if More(Sum(b[:k]), b[k:]) != sum || joined != sum || e != api.OK {
			t.Fatalf("%v, cut at %d: another sum", b, k)
		}
		if _, e := Join(sum, 1, n); (e == api.ErrArg) != (n < 0) {
			t.Fatalf("Join with %d: error %d", n, e)
		}
		got, ok := Open(b)
		if !ok && got != nil || ok && !bytes.Equal(Sealed(got), b) {
			t.Fatalf("Open(%v) = %v, %t", b, got, ok)
		}
	})
}
