package vint

import (
	"bytes"
	"encoding/binary"
	"math"
	"testing"

	"tidepole/api"
)

// edges are the numbers around each place where one more byte is needed, and others between them.
func edges() []uint64 {
	l := []uint64{0, 1, 2, 127, 128, 129, 255, 256, 300, 1 << 32, math.MaxInt64, 1 << 63, math.MaxUint64 - 1, math.MaxUint64}
	for k := range 64 {
		p := uint64(1) << k
		l = append(l, p-1, p, p+1, p*0x9e3779b97f4a7c15)
	}
	return l
}

// signedEdges are the same numbers with both signs, and the ends of int.
func signedEdges() []int {
	l := []int{0, -1, 1, -2, 63, 64, -64, -65, math.MaxInt, math.MinInt, math.MinInt + 1}
	for _, n := range edges() {
		l = append(l, int(n), -int(n))
	}
	return l
}

// repeated is size bytes of the value x, and the last ones behind them.
func repeated(size int, x byte, last ...byte) []byte {
	return append(bytes.Repeat([]byte{x}, size), last...)
}

func TestPutKnownBytes(t *testing.T) { // 1.1
	for _, c := range []struct {
		n    uint64
		want []byte
	}{
		{0, []byte{0}},
		{1, []byte{1}},
		{127, []byte{127}},
		{128, []byte{128, 1}},
		{300, []byte{172, 2}},
		{16383, []byte{255, 127}},
		{16384, []byte{128, 128, 1}},
		{1 << 63, repeated(9, 128, 1)},
		{1<<63 - 1, repeated(8, 255, 127)},
		{math.MaxUint64, repeated(9, 255, 1)},
	} {
		if got := Put(nil, c.n); !bytes.Equal(got, c.want) {
			t.Errorf("Put(nil, %d) = %v, want %v", c.n, got, c.want)
		}
		if got := Size(c.n); got != len(c.want) {
			t.Errorf("Size(%d) = %d, want %d", c.n, got, len(c.want))
		}
	}
}

func TestPutIntKnownBytes(t *testing.T) { // 1.1
	for _, c := range []struct {
		n    int
		want []byte
	}{
		{0, []byte{0}},
		{-1, []byte{1}},
		{1, []byte{2}},
		{-2, []byte{3}},
		{63, []byte{126}},
		{-64, []byte{127}},
		{64, []byte{128, 1}},
		{-65, []byte{129, 1}},
		{math.MaxInt, append([]byte{254}, repeated(8, 255, 1)...)},
		{math.MinInt, repeated(9, 255, 1)},
	} {
		if got := PutInt(nil, c.n); !bytes.Equal(got, c.want) {
			t.Errorf("PutInt(nil, %d) = %v, want %v", c.n, got, c.want)
		}
	}
}

func TestPutAgainstLibrary(t *testing.T) { // 1.1: the library's form is the same one
	ahead := []byte{9, 200}
	for _, n := range edges() {
		want := binary.AppendUvarint(bytes.Clone(ahead), n)
		if got := Put(ahead, n); !bytes.Equal(got, want) {
			t.Errorf("Put(%v, %d) = %v, want %v", ahead, n, got, want)
		}
		if got := Size(n); got != len(want)-len(ahead) {
			t.Errorf("Size(%d) = %d, want %d", n, got, len(want)-len(ahead))
		}
	}
	for _, n := range signedEdges() {
		want := binary.AppendVarint(bytes.Clone(ahead), int64(n))
		if got := PutInt(ahead, n); !bytes.Equal(got, want) {
			t.Errorf("PutInt(%v, %d) = %v, want %v", ahead, n, got, want)
		}
	}
}

func TestNumbersBack(t *testing.T) { // 1.1, 1.3
	for _, n := range edges() {
		b := Put([]byte{255, 9}, n)
		if got, end, e := Read(b, 2); got != n || end != len(b) || e != api.OK {
			t.Errorf("Read(%v, 2) = %d, %d, %d, want %d, %d", b, got, end, e, n, len(b))
		}
		if got, end, e := Read(append(b, 255), 2); got != n || end != len(b) || e != api.OK {
			t.Errorf("Read with a byte behind %d = %d, %d, %d", n, got, end, e)
		}
	}
	for _, n := range signedEdges() {
		b := PutInt([]byte{255, 9}, n)
		if got, end, e := ReadInt(b, 2); got != n || end != len(b) || e != api.OK {
			t.Errorf("ReadInt(%v, 2) = %d, %d, %d, want %d, %d", b, got, end, e, n, len(b))
		}
	}
}

func TestReadErrors(t *testing.T) { // 1.1, P1
	one := []byte{7, 128, 1}
	for _, c := range []struct {
		name string
		b    []byte
		at   int
		want api.Errno
	}{
		{"place below 0", one, -1, api.ErrArg},
		{"least place", one, math.MinInt, api.ErrArg},
		{"place behind the end", one, 4, api.ErrArg},
		{"greatest place", one, math.MaxInt, api.ErrArg},
		{"place outside of nothing", nil, 1, api.ErrArg},
		{"place ahead of nothing", nil, -1, api.ErrArg},
		{"place at the end", one, 3, api.ErrShort},
		{"nothing", nil, 0, api.ErrShort},
		{"no bytes", []byte{}, 0, api.ErrShort},
		{"last byte missing", []byte{128}, 0, api.ErrShort},
		{"nine bytes, last one missing", repeated(9, 255), 0, api.ErrShort},
		{"too many bytes and none is the last: the first error named", repeated(10, 255), 0, api.ErrShort},
		{"far too many and none is the last", repeated(100, 128), 0, api.ErrShort},
		{"0 as two bytes", []byte{128, 0}, 0, api.ErrVint},
		{"1 as two bytes", []byte{129, 0}, 0, api.ErrVint},
		{"127 as three bytes", []byte{255, 128, 0}, 0, api.ErrVint},
		{"behind others", []byte{7, 255, 0, 7}, 1, api.ErrVint},
		{"63 bits as ten bytes", repeated(9, 255, 0), 0, api.ErrVint},
		{"65 bits", repeated(9, 255, 2), 0, api.ErrVint},
		{"65 bits, low ones set too", repeated(9, 255, 3), 0, api.ErrVint},
		{"70 bits", repeated(9, 255, 127), 0, api.ErrVint},
		{"71 bits", repeated(10, 255, 1), 0, api.ErrVint},
		{"eleven bytes of 0", repeated(10, 128, 0), 0, api.ErrVint},
		{"a hundred bytes", repeated(100, 255, 1), 0, api.ErrVint},
	} {
		if n, end, e := Read(c.b, c.at); n != 0 || end != 0 || e != c.want {
			t.Errorf("%s: Read = %d, %d, %d, want error %d", c.name, n, end, e, c.want)
		}
		if n, end, e := ReadInt(c.b, c.at); n != 0 || end != 0 || e != c.want {
			t.Errorf("%s: ReadInt = %d, %d, %d, want error %d", c.name, n, end, e, c.want)
		}
		if x, end, e := ReadBytes(c.b, c.at); len(x) != 0 || end != 0 || e != c.want {
			t.Errorf("%s: ReadBytes = %v, %d, %d, want error %d", c.name, x, end, e, c.want)
		}
	}
}

func TestEachBeginningIsShort(t *testing.T) { // 1.1: cut anywhere, a number is not there
	for _, n := range edges() {
		b := Put(nil, n)
		for k := range len(b) {
			if got, end, e := Read(b[:k], 0); got != 0 || end != 0 || e != api.ErrShort {
				t.Errorf("Read(%v, 0) = %d, %d, %d, want error %d", b[:k], got, end, e, api.ErrShort)
			}
		}
	}
}

// checkOneWay reads b at its beginning, and if there is a number, puts it again.
func checkOneWay(t *testing.T, b []byte) {
	n, end, e := Read(b, 0)
	if e == api.OK && !bytes.Equal(Put(nil, n), b[:end]) {
		t.Errorf("Read(%v) = %d, %d, but Put makes %v", b, n, end, Put(nil, n))
	}
	i, iend, ie := ReadInt(b, 0)
	if ie != e || iend != end {
		t.Errorf("Read(%v) and ReadInt differ: %d, %d and %d, %d", b, end, e, iend, ie)
	}
	if ie == api.OK && !bytes.Equal(PutInt(nil, i), b[:iend]) {
		t.Errorf("ReadInt(%v) = %d, %d, but PutInt makes %v", b, i, iend, PutInt(nil, i))
	}
}

func TestOneWay(t *testing.T) { // 1.4
	for x := range 256 {
		checkOneWay(t, []byte{byte(x)})
		for y := range 256 {
			checkOneWay(t, []byte{byte(x), byte(y)})
			checkOneWay(t, []byte{255, byte(x), byte(y)})
			for size := range 12 {
				checkOneWay(t, repeated(size, 128, byte(x), byte(y)))
			}
		}
	}
}

func TestOnlyOneFormIsRead(t *testing.T) { // 1.4: of all two bytes, just those that are needed
	for x := range 128 {
		for y := range 128 {
			n, end, e := Read([]byte{byte(x) | 128, byte(y)}, 0)
			if y == 0 && (n != 0 || end != 0 || e != api.ErrVint) {
				t.Errorf("bytes %d 0 are read: %d, %d, %d", x|128, n, end, e)
			}
			if y > 0 && (n != uint64(x|y<<7) || end != 2 || e != api.OK) {
				t.Errorf("bytes %d %d: %d, %d, %d", x|128, y, n, end, e)
			}
		}
	}
}

func TestRising(t *testing.T) { // 1.5
	for _, n := range edges() {
		if n < math.MaxUint64 && Size(n) > Size(n+1) {
			t.Errorf("%d has %d bytes, and the next one %d", n, Size(n), Size(n+1))
		}
		for _, m := range edges() {
			if n < m && len(Put(nil, n)) > len(Put(nil, m)) {
				t.Errorf("%d has more bytes than %d", n, m)
			}
		}
	}
	if least, most := Size(0), Size(math.MaxUint64); least != 1 || most != 10 {
		t.Errorf("sizes go from %d to %d, want 1 to 10", least, most)
	}
}

func TestBytesBack(t *testing.T) { // 1.2, 1.3
	for _, size := range []int{0, 1, 2, 127, 128, 16383, 16384, api.MaxBytes - 1, api.MaxBytes} {
		x := repeated(size, 200)
		b, e := PutBytes([]byte{255, 9}, x)
		want := append(binary.AppendUvarint([]byte{255, 9}, uint64(size)), x...)
		if !bytes.Equal(b, want) || e != api.OK {
			t.Fatalf("PutBytes of %d bytes: %d bytes, error %d", size, len(b), e)
		}
		got, end, e := ReadBytes(b, 2)
		if !bytes.Equal(got, x) || end != len(b) || e != api.OK {
			t.Errorf("ReadBytes of %d bytes: %d bytes, place %d, error %d", size, len(got), end, e)
		}
		got, end, e = ReadBytes(append(b, 7), 2)
		if !bytes.Equal(got, x) || end != len(b) || e != api.OK {
			t.Errorf("ReadBytes of %d bytes and one behind: %d bytes, place %d, error %d", size, len(got), end, e)
		}
	}
}

func TestPutBytesExample(t *testing.T) { // 1.2
	if b, e := PutBytes(nil, []byte{7, 8}); !bytes.Equal(b, []byte{2, 7, 8}) || e != api.OK {
		t.Errorf("PutBytes of 7 8 = %v, %d", b, e)
	}
	if b, e := PutBytes(nil, nil); !bytes.Equal(b, []byte{0}) || e != api.OK {
		t.Errorf("PutBytes of nothing = %v, %d", b, e)
	}
}

func TestPutBytesTooLong(t *testing.T) { // 1.2, P1: nothing comes with the error, not even b
	for _, size := range []int{api.MaxBytes + 1, 2 * api.MaxBytes} {
		if b, e := PutBytes([]byte{9}, make([]byte, size)); b != nil || e != api.ErrLong {
			t.Errorf("PutBytes of %d bytes: %d bytes, error %d", size, len(b), e)
		}
	}
}

func TestReadBytesErrors(t *testing.T) { // 1.2, P1
	full, _ := PutBytes(nil, make([]byte, api.MaxBytes))
	for _, c := range []struct {
		name string
		b    []byte
		at   int
		want api.Errno
	}{
		{"one byte of two", []byte{2, 7}, 0, api.ErrShort},
		{"none of one", []byte{1}, 0, api.ErrShort},
		{"bytes ahead don't count", []byte{7, 7, 7, 2, 7}, 3, api.ErrShort},
		{"as many as may be, one missing", full[:len(full)-1], 0, api.ErrShort},
		{"as many as may be, all missing", binary.AppendUvarint(nil, api.MaxBytes), 0, api.ErrShort},
		{"one too many, all missing: the first error named", binary.AppendUvarint(nil, api.MaxBytes+1), 0, api.ErrLong},
		{"one too many, all there", append(binary.AppendUvarint(nil, api.MaxBytes+1), make([]byte, api.MaxBytes+1)...), 0, api.ErrLong},
		{"greatest int", binary.AppendUvarint(nil, math.MaxInt64), 0, api.ErrLong},
		{"more than an int", binary.AppendUvarint(nil, 1<<63), 0, api.ErrLong},
		{"greatest number", binary.AppendUvarint(nil, math.MaxUint64), 0, api.ErrLong},
		{"more than 64 bits, behind it enough", append(repeated(9, 255, 2), 7, 7), 0, api.ErrVint},
	} {
		if x, end, e := ReadBytes(c.b, c.at); x != nil || end != 0 || e != c.want {
			t.Errorf("%s: ReadBytes = %d bytes, %d, %d, want error %d", c.name, len(x), end, e, c.want)
		}
	}
}

func TestBytesOneWay(t *testing.T) { // 1.4
	for x := range 256 {
		for size := range 300 {
			for _, b := range [][]byte{append([]byte{byte(x)}, make([]byte, size)...), append([]byte{byte(x), 1}, make([]byte, size)...)} {
				got, end, e := ReadBytes(b, 0)
				if e != api.OK {
					continue
				}
				if again, _ := PutBytes(nil, got); !bytes.Equal(again, b[:end]) {
					t.Fatalf("bytes %d ..: read %d bytes up to %d, put again %d", x, len(got), end, len(again))
				}
			}
		}
	}
}

// roomy is 1 2 3 with bytes of others behind it that are in reach of append.
func roomy() (b, all []byte) {
	all = repeated(40, 77)
	copy(all, []byte{1, 2, 3})
	return all[:3], all
}

func TestPutLeavesItsArguments(t *testing.T) { // 1.1, P2: not even the room behind b is written to
	puts := map[string]func(b, x []byte) []byte{
		"Put":      func(b, x []byte) []byte { return Put(b, 1<<40) },
		"PutInt":   func(b, x []byte) []byte { return PutInt(b, -1<<40) },
		"PutBytes": func(b, x []byte) []byte { out, _ := PutBytes(b, x); return out },
		"PutBytes of none": func(b, x []byte) []byte {
			out, _ := PutBytes(b, nil)
			return out
		},
	}
	for name, put := range puts {
		b, all := roomy()
		before := bytes.Clone(all)
		x := []byte{7, 8}
		out := put(b, x)
		clear(out)
		_ = append(out, 99)
		if !bytes.Equal(all, before) || !bytes.Equal(x, []byte{7, 8}) {
			t.Errorf("%s shares memory with its arguments: %v, %v", name, all, x)
		}
	}
}

func TestReadLeavesItsArguments(t *testing.T) { // P2: what is handed out is the caller's own
	b := []byte{2, 7, 8, 9}
	x, _, _ := ReadBytes(b, 0)
	clear(x)
	_ = append(x, 99)
	if !bytes.Equal(b, []byte{2, 7, 8, 9}) {
		t.Errorf("ReadBytes shares memory with its argument: %v", b)
	}
	Read(b, 0)
	ReadInt(b, 0)
	if !bytes.Equal(b, []byte{2, 7, 8, 9}) {
		t.Errorf("reading wrote: %v", b)
	}
}

func TestRefusedCallsLeaveNothing(t *testing.T) { // P2
	b, all := roomy()
	before := bytes.Clone(all)
	PutBytes(b, make([]byte, api.MaxBytes+1))
	ReadBytes(b, 0)
	ReadBytes(b, 4)
	if !bytes.Equal(all, before) {
		t.Errorf("a refused call wrote: %v", all)
	}
}

func FuzzRead(f *testing.F) { // 1.2 to 1.4, P1
	for _, n := range edges() {
		f.Add(Put(nil, n), 0)
	}
	f.Add([]byte{2, 7, 8}, 0)
	f.Add([]byte{128, 0}, 1)
	f.Add([]byte{}, -1)
	f.Fuzz(func(t *testing.T, b []byte, at int) {
		n, end, e := Read(b, at)
		if (e == api.ErrArg) != (at < 0 || at > len(b)) {
			t.Fatalf("place %d of %d bytes: error %d", at, len(b), e)
		}
		if e != api.OK && (n != 0 || end != 0) || e == api.OK && !bytes.Equal(Put(nil, n), b[at:end]) {
			t.Fatalf("Read(%v, %d) = %d, %d, %d", b, at, n, end, e)
		}
		x, end, e := ReadBytes(b, at)
		if e != api.OK && (x != nil || end != 0) {
			t.Fatalf("ReadBytes(%v, %d) = %v, %d, %d", b, at, x, end, e)
		}
		if again, _ := PutBytes(nil, x); e == api.OK && !bytes.Equal(again, b[at:end]) {
			t.Fatalf("ReadBytes(%v, %d) = %v, %d", b, at, x, end)
		}
	})
}
