package frame

import (
	"bytes"
	"encoding/binary"
	"hash/crc32"
	"math"
	"math/rand"
	"slices"
	"testing"

	"tidepole/api"
)

const top = math.MaxUint32

// sealed is a sector as the chapter's words tell it, right or not, with a right sum and last byte.
func sealed(number uint32, count uint16, flags byte, x []byte) []byte {
	s := binary.LittleEndian.AppendUint32(nil, number)
	s = binary.LittleEndian.AppendUint16(s, count)
	s = append(s, flags)
	s = append(s, x...)
	s = append(s, make([]byte, 251-len(s))...)
	s = binary.LittleEndian.AppendUint32(s, crc32.Checksum(s, crc32.MakeTable(crc32.Castagnoli)))
	return append(s, 255)
}

// piece is a sector that has x, as it should be.
func piece(number int, flags byte, x []byte) []byte {
	return sealed(uint32(number), uint16(len(x)), flags, x)
}

// written is the sectors of records as the chapter's words tell them.
func written(number int, l ...[]byte) []byte {
	var out []byte
	for _, x := range l {
		n := (len(x) + 243) / 244
		if n == 0 {
			n = 1
		}
		for k := range n {
			flags := byte(0)
			if k == 0 {
				flags |= 1
			}
			if k == n-1 {
				flags |= 2
			}
			out = append(out, piece(number, flags, x[k*244:min(k*244+244, len(x))])...)
			number++
		}
	}
	return out
}

// isRight tells of 256 bytes, field by field, whether they are a right sector, whatever stands ahead.
func isRight(s []byte) bool {
	n := int(s[4]) + 256*int(s[5])
	if n > 244 || s[6] > 3 || s[255] != 255 || n < 244 && s[6] < 2 {
		return false
	}
	for _, x := range s[7+n : 251] {
		if x != 0 {
			return false
		}
	}
	return binary.LittleEndian.Uint32(s[251:]) == crc32.Checksum(s[:251], crc32.MakeTable(crc32.Castagnoli))
}

// read is the records of bytes as the chapter's words tell them, and Good.
func read(number int, b []byte) ([][]byte, int) {
	var l [][]byte
	var x []byte
	open, good := false, 0
	for k := 0; 256*(k+1) <= len(b); k++ {
		s := b[256*k : 256*(k+1)]
		if !isRight(s) || int(binary.LittleEndian.Uint32(s)) != number+k || (s[6]&1 == 1) == open {
			break
		}
		x = append(x, s[7:7+int(s[4])]...)
		open = true
		if s[6]&2 == 2 {
			l, x, open, good = append(l, x), nil, false, k+1
		}
	}
	return l, good
}

// sameLists holds lists of bytes against each other (an empty list is as none).
func sameLists(a, b [][]byte) bool { return slices.EqualFunc(a, b, bytes.Equal) }

// noise is n bytes that a fixed seed draws.
func noise(n int) []byte {
	b := make([]byte, n)
	rand.New(rand.NewSource(int64(n))).Read(b)
	return b
}

// samples are lists of records, with those of the lengths at which sectors are full.
func samples() [][][]byte {
	l := [][][]byte{nil, {}, {nil}, {{}}, {{}, {}, {}}, {[]byte("a"), noise(300)}, {noise(488), {}, noise(244), {0}}, {make([]byte, 244), make([]byte, 10), bytes.Repeat([]byte{255}, 600)}}
	var all [][]byte
	for _, n := range []int{0, 1, 2, 242, 243, 244, 245, 487, 488, 489, 732, 733, 1000} {
		l = append(l, [][]byte{noise(n)})
		all = append(all, noise(n))
	}
	return append(l, all, [][]byte{noise(65535), noise(65536)})
}

func TestWriteByTheWords(t *testing.T) { // 3.1
	for _, l := range samples() {
		for _, number := range []int{0, 1, 5, 255, 256, 65536*7 - 1, 1<<24 - 2, 1 << 31, top - 1000} {
			b, e := Write(number, l...)
			if want := written(number, l...); e != api.OK || !bytes.Equal(b, want) {
				t.Fatalf("Write(%d, %d records) = %d bytes, %v, want other %d bytes", number, len(l), len(b), e, len(want))
			}
			if n, e := Need(l...); e != api.OK || 256*n != len(b) {
				t.Errorf("Need(%d records) = %d, %v, and they have %d bytes", len(l), n, e, len(b))
			}
		}
	}
}

func TestExample(t *testing.T) { // 3.1
	b, e := Write(5, []byte("a"), make([]byte, 300))
	if len(b) != 3*256 || e != api.OK || b[0] != 5 || b[256] != 6 || b[512] != 7 || b[6] != 3 || b[256+6] != 1 || b[512+6] != 2 {
		t.Errorf("Write(5, a, 300 bytes) = %v, %v", b, e)
	}
}

func TestNeed(t *testing.T) { // 3.1
	for _, c := range []struct{ bytes, want int }{{0, 1}, {1, 1}, {243, 1}, {244, 1}, {245, 2}, {488, 2}, {489, 3}, {65535, 269}, {65536, 269}} {
		if n, e := Need(make([]byte, c.bytes)); n != c.want || e != api.OK {
			t.Errorf("Need(%d bytes) = %d, %v, want %d", c.bytes, n, e, c.want)
		}
		if n, e := Need(nil, make([]byte, c.bytes), make([]byte, c.bytes)); n != 1+2*c.want || e != api.OK {
			t.Errorf("Need(none, and twice %d bytes) = %d, %v, want %d", c.bytes, n, e, 1+2*c.want)
		}
	}
	if n, e := Need(); n != 0 || e != api.OK {
		t.Errorf("Need() = %d, %v", n, e)
	}
}

func TestMaxItems(t *testing.T) { // 3.1
	l := make([][]byte, api.MaxItems)
	l[7] = noise(500)
	b, e := Write(9, l...)
	if e != api.OK || !bytes.Equal(b, written(9, l...)) {
		t.Errorf("Write of MaxItems records: %d bytes, %v", len(b), e)
	}
	if n, e := Need(l...); n != api.MaxItems+2 || e != api.OK {
		t.Errorf("Need of MaxItems records: %d, %v", n, e)
	}
	l = append(l, nil)
	if b, e := Write(9, l...); b != nil || e != api.ErrLong {
		t.Errorf("Write of MaxItems records and one: %d bytes, %v", len(b), e)
	}
	if n, e := Need(l...); n != 0 || e != api.ErrLong {
		t.Errorf("Need of MaxItems records and one: %d, %v", n, e)
	}
}

func TestTooLong(t *testing.T) { // 3.1, P1
	long := make([]byte, api.MaxBytes+1)
	for _, l := range [][][]byte{{long}, {nil, long}, {long, nil}, {noise(5), long, noise(5)}} {
		if b, e := Write(0, l...); b != nil || e != api.ErrLong {
			t.Errorf("Write = %d bytes, %v, want ErrLong", len(b), e)
		}
		if n, e := Need(l...); n != 0 || e != api.ErrLong {
			t.Errorf("Need = %d, %v, want ErrLong", n, e)
		}
	}
}

func TestWriteNumbers(t *testing.T) { // 3.1, P1
	for _, c := range []struct {
		number, bytes int
		want          api.Errno
	}{
		{0, 0, api.OK},
		{-1, 0, api.ErrArg},
		{math.MinInt, 0, api.ErrArg},
		{math.MinInt, 600, api.ErrArg},
		{top, 0, api.OK},
		{top, 244, api.OK},
		{top, 245, api.ErrArg},
		{top - 1, 488, api.OK},
		{top - 1, 489, api.ErrArg},
		{top - 268, api.MaxBytes, api.OK},
		{top - 267, api.MaxBytes, api.ErrArg},
		{top + 1, 0, api.ErrArg},
		{2 * top, 0, api.ErrArg},
		{math.MaxInt, 600, api.ErrArg},
		{math.MaxInt, api.MaxBytes + 1, api.ErrLong}, // the first that is named
		{-1, api.MaxBytes + 1, api.ErrLong},
	} {
		x := noise(c.bytes)
		b, e := Write(c.number, x)
		if e != c.want || e != api.OK && b != nil || e == api.OK && !bytes.Equal(b, written(c.number, x)) {
			t.Errorf("Write(%d, %d bytes) = %d bytes, %v, want %v", c.number, c.bytes, len(b), e, c.want)
		}
	}
	if b, e := Write(top, nil, nil); b != nil || e != api.ErrArg {
		t.Errorf("Write of two at the top: %d bytes, %v", len(b), e)
	}
	if b, e := Write(-1, make([][]byte, api.MaxItems+1)...); b != nil || e != api.ErrLong {
		t.Errorf("Write of too many from -1 on: %d bytes, %v", len(b), e)
	}
}

func TestWriteNone(t *testing.T) { // 3.1
	for number, want := range map[int]api.Errno{-1: api.ErrArg, 0: api.OK, 5: api.OK, top: api.OK, top + 1: api.ErrArg} {
		if b, e := Write(number); len(b) != 0 || e != want {
			t.Errorf("Write(%d) = %d bytes, %v, want %v", number, len(b), e, want)
		}
	}
}

func TestFirst(t *testing.T) { // 3.1
	full := noise(244)
	for _, c := range []struct {
		number int
		flags  byte
		x      []byte
	}{
		{0, 3, nil}, {5, 3, []byte("a")}, {top, 3, noise(243)}, {7, 3, full},
		{1 << 31, 2, nil}, {8, 2, make([]byte, 9)}, {8, 2, full}, {256, 1, full}, {65536, 0, full},
	} {
		s := piece(c.number, c.flags, c.x)
		for _, b := range [][]byte{s, append(slices.Clone(s), 1), append(slices.Clone(s), s...)} {
			number, x, flags, e := First(b)
			if number != c.number || !bytes.Equal(x, c.x) || flags != int(c.flags) || e != api.OK {
				t.Errorf("First = %d, %v, %d, %v, want %v", number, x, flags, e, c)
			}
		}
	}
}

// noSectors are sectors of the number 5 that are wrong by themselves, by names.
func noSectors() map[string][]byte {
	full, over := noise(244), noise(244)
	with := func(s []byte, at int, x byte) []byte {
		s[at] = x
		return s
	}
	return map[string][]byte{
		"none":                           nil,
		"noughts":                        make([]byte, 256),
		"255s":                           bytes.Repeat([]byte{255}, 256),
		"245 bytes":                      sealed(5, 245, 3, over),
		"245 bytes that end none":        sealed(5, 245, 1, over),
		"500 bytes":                      sealed(5, 500, 3, over),
		"65535 bytes":                    sealed(5, 65535, 3, nil),
		"256 bytes, as if none":          sealed(5, 256, 3, nil),
		"a byte behind none":             sealed(5, 0, 3, []byte{1}),
		"a byte behind one":              sealed(5, 1, 3, []byte{7, 1}),
		"the last byte behind one":       sealed(5, 1, 3, append(make([]byte, 243), 1)),
		"a byte behind 243":              sealed(5, 243, 2, append(make([]byte, 243), 128)),
		"the flag 4":                     piece(5, 4, full),
		"the flags 5":                    piece(5, 5, full),
		"the flags 7":                    piece(5, 7, full),
		"the flag 128":                   piece(5, 128|3, full),
		"all flags":                      piece(5, 255, full),
		"a last byte 254":                with(piece(5, 3, full), 255, 254),
		"a last byte 0":                  with(piece(5, 3, full), 255, 0),
		"not full, no flags":             piece(5, 0, noise(243)),
		"not full, begun, not ended":     piece(5, 1, noise(243)),
		"empty, no flags":                piece(5, 0, nil),
		"empty, begun, not ended":        piece(5, 1, nil),
		"another sum":                    with(piece(5, 3, full), 252, piece(5, 3, full)[252]+1),
		"the sum's bytes the other way":  swapped(piece(5, 3, full)),
		"the sum of the bytes alone":     wrongSum(full, full),
		"the sum of all but the number":  wrongSum(full, piece(5, 3, full)[4:251]),
		"a sum without the turned bits":  turned(piece(5, 3, full)),
		"one byte too few":               piece(5, 3, full)[:255],
		"one byte too few, the first":    piece(5, 3, full)[1:],
		"one byte":                       {5},
		"a byte ahead":                   append([]byte{0}, piece(5, 3, full)...),
		"another number with that sum":   with(piece(5, 3, full), 0, 6),
		"another flag with that sum":     with(piece(5, 3, full), 6, 2),
		"another count with that sum":    with(piece(5, 3, full), 4, 243),
		"another byte 250 with that sum": with(piece(5, 3, nil), 250, 1),
	}
}

func swapped(s []byte) []byte {
	slices.Reverse(s[251:255])
	return s
}

func turned(s []byte) []byte {
	for k := range s[251:255] {
		s[251+k] ^= 255
	}
	return s
}

// wrongSum is a sector of x with the sum of other bytes.
func wrongSum(x, of []byte) []byte {
	s := piece(5, 3, x)
	binary.LittleEndian.PutUint32(s[251:], crc32.Checksum(of, crc32.MakeTable(crc32.Castagnoli)))
	return s
}

func TestNoSector(t *testing.T) { // 3.1, 3.2, P1
	for name, s := range noSectors() {
		if number, x, flags, e := First(s); number != 0 || x != nil || flags != 0 || e != api.ErrFrame {
			t.Errorf("First of one with %s = %d, %d bytes, %d, %v, want ErrFrame", name, number, len(x), flags, e)
		}
		if l, good, e := Read(5, s); len(l) != 0 || good != 0 || e != api.OK {
			t.Errorf("Read of one with %s = %d records, %d, %v", name, len(l), good, e)
		}
		b := append(written(3, []byte("a"), nil), s...)
		b = append(b, written(6, []byte("b"))...)
		if l, good, e := Read(3, b); !sameLists(l, [][]byte{[]byte("a"), nil}) || good != 2 || e != api.OK {
			t.Errorf("Read of two ahead of one with %s = %v, %d, %v", name, l, good, e)
		}
	}
}

func TestEachBit(t *testing.T) { // 3.1, 3.2
	for _, x := range [][]byte{nil, noise(100), noise(244)} {
		s := piece(5, 3, x)
		for k := range 8 * len(s) {
			s[k/8] ^= 1 << (k % 8)
			if _, _, _, e := First(s); e != api.ErrFrame {
				t.Errorf("First with another bit %d of the byte %d: %v", k%8, k/8, e)
			}
			if l, good, _ := Read(5, s); len(l) != 0 || good != 0 {
				t.Errorf("Read with another bit %d of the byte %d: %v, %d", k%8, k/8, l, good)
			}
			s[k/8] ^= 1 << (k % 8)
		}
	}
}

// followers are bytes that begin with no sector of the number next.
func followers(next int) [][]byte {
	return [][]byte{
		nil, {0}, {255}, noise(255), noise(256), noise(1000), make([]byte, 255), make([]byte, 256), make([]byte, 10000),
		written(next, []byte("b"))[:255], written(next+1, []byte("b"), nil), written(next-1, []byte("b"), nil), written(0, nil, nil),
		append([]byte{0}, written(next, nil)...),
	}
}

func TestBack(t *testing.T) { // 3.2, 3.3
	for _, l := range samples() {
		for _, number := range []int{0, 5, 255, 1 << 20, top - 600} {
			b, _ := Write(number, l...)
			for _, f := range followers(number + len(b)/256) {
				if len(b) == 0 && isNext(f, number) { // behind nothing, the sectors from 0 on may be those of the next number
					continue
				}
				got, good, e := Read(number, append(slices.Clone(b), f...))
				if !sameLists(got, l) || good != len(b)/256 || e != api.OK {
					t.Fatalf("Read(%d, %d records, and %d bytes) = %d records, %d, %v", number, len(l), len(f), len(got), good, e)
				}
			}
		}
	}
}

func isNext(b []byte, number int) bool {
	n, _, _, e := First(b)
	return e == api.OK && n == number
}

func TestReadGoesOn(t *testing.T) { // 3.2: a sector of the next number counts
	b, _ := Write(5, []byte("a"), noise(300))
	c, _ := Write(8, nil, []byte("b"))
	l, good, e := Read(5, append(b, c...))
	if !sameLists(l, [][]byte{[]byte("a"), noise(300), nil, []byte("b")}) || good != 5 || e != api.OK {
		t.Errorf("Read = %d records, %d, %v", len(l), good, e)
	}
}

func TestReadNumbers(t *testing.T) { // 3.2, P1
	b, _ := Write(0, []byte("a"))
	for _, number := range []int{-1, math.MinInt, top + 1, 2 * (top + 1), math.MaxInt} {
		for _, b := range [][]byte{nil, b, noise(300)} {
			if l, good, e := Read(number, b); l != nil || good != 0 || e != api.ErrArg {
				t.Errorf("Read(%d) = %v, %d, %v, want ErrArg", number, l, good, e)
			}
		}
	}
	for _, number := range []int{0, 5, top} {
		if l, good, e := Read(number, nil); len(l) != 0 || good != 0 || e != api.OK {
			t.Errorf("Read(%d, none) = %v, %d, %v", number, l, good, e)
		}
	}
}

func TestReadAtTheTop(t *testing.T) { // 3.2: behind the highest number there is none, not the number 0 again
	b := append(written(top, []byte("a")), written(0, []byte("b"))...)
	if l, good, e := Read(top, b); !sameLists(l, [][]byte{[]byte("a")}) || good != 1 || e != api.OK {
		t.Errorf("Read = %v, %d, %v", l, good, e)
	}
	b = append(piece(top, 1, noise(244)), piece(0, 2, nil)...)
	if l, good, e := Read(top, b); len(l) != 0 || good != 0 || e != api.OK {
		t.Errorf("Read = %v, %d, %v", l, good, e)
	}
}

func TestReadFlags(t *testing.T) { // 3.2
	full := noise(244)
	type s struct {
		flags byte
		x     []byte
	}
	for _, c := range []struct {
		name          string
		l             []s
		records, good int
	}{
		{"goes on where none is", []s{{0, full}, {3, nil}}, 0, 0},
		{"ends where none is", []s{{2, nil}, {3, nil}}, 0, 0},
		{"goes on behind one", []s{{3, nil}, {0, full}, {2, nil}}, 1, 1},
		{"ends behind one", []s{{3, nil}, {2, nil}, {3, nil}}, 1, 1},
		{"begins while one is open", []s{{3, nil}, {1, full}, {1, full}, {2, nil}}, 1, 1},
		{"begins and ends while one is open", []s{{3, nil}, {1, full}, {3, nil}, {2, nil}}, 1, 1},
		{"begins while one goes on", []s{{1, full}, {0, full}, {1, full}, {2, nil}}, 0, 0},
		{"never ends", []s{{3, nil}, {3, nil}, {1, full}, {0, full}}, 2, 2},
		{"not full in the middle", []s{{3, nil}, {1, full}, {0, full[:243]}, {2, nil}}, 1, 1},
		{"not full at first", []s{{3, nil}, {1, full[:100]}, {2, nil}}, 1, 1},
		{"an empty end", []s{{1, full}, {2, nil}, {3, nil}}, 2, 3},
		{"all of it", []s{{1, full}, {0, full}, {0, full}, {2, full}, {3, full}}, 2, 5},
	} {
		var b []byte
		for k, s := range c.l {
			b = append(b, piece(5+k, s.flags, s.x)...)
		}
		l, good, e := Read(5, b)
		want, _ := read(5, b)
		if len(l) != c.records || !sameLists(l, want) || good != c.good || e != api.OK {
			t.Errorf("%s: %d records, %d, %v", c.name, len(l), good, e)
		}
	}
}

func TestReadManyRecords(t *testing.T) { // 3.2: more than may be written at once
	var b []byte
	var want [][]byte
	for k := range api.MaxItems + 10 {
		want = append(want, []byte{byte(k), byte(k >> 8)})
		b = append(b, piece(5+k, 3, want[k])...)
	}
	l, good, e := Read(5, b)
	if !sameLists(l, want) || good != len(want) || e != api.OK {
		t.Errorf("Read = %d records, %d, %v", len(l), good, e)
	}
}

func TestReadLongRecord(t *testing.T) { // 3.2: what is right does not hang on how long a record is
	b := piece(0, 1, make([]byte, 244))
	for k := range 299 {
		b = append(b, piece(1+k, 0, make([]byte, 244))...)
	}
	b = append(b, piece(300, 2, nil)...)
	if l, good, e := Read(0, b); len(l) != 1 || len(l[0]) != 300*244 || good != 301 || e != api.OK {
		t.Errorf("Read = %d records, %d, %v", len(l), good, e)
	}
}

// mixed is records of some sectors each, and how many of them end ahead of each sector.
func mixed() ([][]byte, []int) {
	l := [][]byte{noise(10), noise(600), nil, noise(488), noise(244), noise(245), []byte("end")}
	var ended []int
	for k, x := range l {
		n, _ := Need(x)
		for range n {
			ended = append(ended, k)
		}
	}
	return l, ended
}

// holds asks whether b, read from 5 on, has just the records that end ahead of the sector k.
func holds(t *testing.T, what string, k int, b []byte) {
	t.Helper()
	l, ended := mixed()
	want := l[:ended[k]]
	good, _ := Need(want...)
	if got, n, e := Read(5, b); !sameLists(got, want) || n != good || e != api.OK {
		t.Errorf("%s: %d records, %d, %v, want %d, %d", what, len(got), n, e, len(want), good)
	}
}

func TestCutOff(t *testing.T) { // 3.4
	l, _ := mixed()
	b, _ := Write(5, l...)
	for n := range b {
		holds(t, "cut off", n/256, b[:n])
	}
}

func TestMissing(t *testing.T) { // 3.4
	l, ended := mixed()
	b, _ := Write(5, l...)
	for k := range ended {
		at, behind := 256*k, 256*(k+1)
		holds(t, "one is missing", k, slices.Concat(b[:at], b[behind:]))
		holds(t, "one is noughts", k, slices.Concat(b[:at], make([]byte, 256), b[behind:]))
		holds(t, "one is noise", k, slices.Concat(b[:at], noise(256), b[behind:]))
		holds(t, "one lost its middle", k, slices.Concat(b[:at+100], b[at+101:]))
		holds(t, "one got a byte", k, slices.Concat(b[:at+100], []byte{0}, b[at+100:]))
		if k > 0 {
			holds(t, "the one ahead is doubled", k, slices.Concat(b[:at], b[at-256:at], b[at:]))
		}
		if behind < len(b) {
			holds(t, "two changed places", k, slices.Concat(b[:at], b[behind:behind+256], b[at:behind], b[behind+256:]))
			holds(t, "two are missing", k, slices.Concat(b[:at], b[behind+256:]))
		}
	}
}

func TestTorn(t *testing.T) { // 3.5
	l, ended := mixed()
	l = append(l, make([]byte, 3))
	b, _ := Write(5, l...)
	for k := range len(b) / 256 {
		for n := range 256 {
			torn := make([]byte, len(b))
			copy(torn, b)
			clear(torn[256*k+n : 256*(k+1)])
			if _, _, _, e := First(torn[256*k:]); e != api.ErrFrame {
				t.Errorf("First of %d bytes of the sector %d: %v", n, k, e)
			}
			if k < len(ended) {
				holds(t, "torn", k, torn)
				holds(t, "torn, the last one", k, torn[:256*(k+1)])
			}
		}
	}
}

func TestAnotherNumber(t *testing.T) { // 3.6
	b, _ := Write(5, []byte("a"), noise(300), nil)
	for _, number := range []int{0, 1, 4, 6, 7, 8, 9, 5 + 256, 5 + 65536, 5 + 1<<24, top} {
		if l, good, e := Read(number, b); len(l) != 0 || good != 0 || e != api.OK {
			t.Errorf("Read(%d) = %d records, %d, %v", number, len(l), good, e)
		}
	}
	for number := range 2000 {
		if l, _, _ := Read(number, b); number != 5 && len(l) != 0 {
			t.Errorf("Read(%d) = %d records", number, len(l))
		}
	}
}

func TestOwnMemory(t *testing.T) { // P2, and what is handed out is the caller's own
	l := [][]byte{noise(10), noise(300), nil, noise(244)}
	given := [][]byte{noise(10), noise(300), nil, noise(244)}
	b, _ := Write(5, given...)
	if !sameLists(given, l) {
		t.Error("Write changes what it is given")
	}
	whole := slices.Clone(b)
	got, _, _ := Read(5, b)
	_, x, _, _ := First(b)
	for _, y := range append(slices.Clone(got), x) {
		y = append(y, 1, 2, 3)
		for k := range y {
			y[k] ^= 255
		}
	}
	if !bytes.Equal(b, whole) {
		t.Error("what is read shares memory with what is handed in")
	}
	again, _, _ := Read(5, b)
	for k := range again { // those behind must not be written to by those ahead
		if want := l[k]; !bytes.Equal(again[k], want) {
			t.Errorf("the record %d is %v", k, again[k])
		}
		_ = append(again[k], bytes.Repeat([]byte{9}, 2000)...)
	}
	for k := range b {
		b[k] = 0
	}
	if !sameLists(again, l) {
		t.Error("records share memory with what is handed in, or with each other")
	}
}

func TestStopped(t *testing.T) { // what is gone through sector by sector may be left at any of them
	l := [][]byte{noise(300), nil, noise(500)}
	b := written(5, l...)
	for stop := range 6 {
		n, m := 0, 0
		for p := range split(5, l) {
			if p.number != 5+n {
				t.Errorf("the sector %d has the number %d", n, p.number)
			}
			if n++; n > stop {
				break
			}
		}
		for range right(5, b) {
			if m++; m > stop {
				break
			}
		}
		if n != stop+1 || m != n {
			t.Errorf("left at %d: %d and %d", stop, n, m)
		}
	}
}

// FuzzRead holds Read and First against the chapter's words: of any bytes, and of these as sectors with right sums.
func FuzzRead(f *testing.F) {
	f.Add(uint32(5), written(5, []byte("a"), noise(300), nil), true)
	f.Add(uint32(top), written(top, noise(244)), false)
	f.Add(uint32(0), slices.Concat(piece(0, 1, noise(244)), piece(1, 1, noise(244)), piece(2, 2, nil)), true)
	f.Add(uint32(7), noise(600), false)
	f.Fuzz(func(t *testing.T, number uint32, b []byte, seal bool) {
		if seal {
			b = slices.Clone(b)
			for k := 0; k+256 <= len(b); k += 256 {
				binary.LittleEndian.PutUint32(b[k:], number+uint32(k/256))
				s := binary.LittleEndian.AppendUint32(nil, crc32.Checksum(b[k:k+251], crc32.MakeTable(crc32.Castagnoli)))
				copy(b[k+251:], append(s, 255))
			}
		}
		l, good, e := Read(int(number), b)
		if want, n := read(int(number), b); !sameLists(l, want) || good != n || e != api.OK {
			t.Errorf("Read = %d records, %d, %v, want %d, %d", len(l), good, e, len(want), n)
		}
		if _, _, _, e := First(b); (e == api.OK) != (len(b) >= 256 && isRight(b[:256])) {
			t.Errorf("First answers %v", e)
		}
	})
}

// FuzzWrite holds Write against the chapter's words, and Read against Write.
func FuzzWrite(f *testing.F) {
	f.Add(uint32(5), []byte("a"), noise(300), 3)
	f.Add(uint32(top), noise(244), []byte{}, 1)
	f.Fuzz(func(t *testing.T, number uint32, x, y []byte, n int) {
		l := [][]byte{x, y, nil, y, x}[:uint(n)%6]
		want := written(int(number), l...)
		b, e := Write(int(number), l...)
		if int(number)+len(want)/256-1 > top {
			if b != nil || e != api.ErrArg {
				t.Errorf("Write = %d bytes, %v, want ErrArg", len(b), e)
			}
			return
		}
		if !bytes.Equal(b, want) || e != api.OK {
			t.Errorf("Write = %d bytes, %v, want other %d bytes", len(b), e, len(want))
		}
		if got, good, e := Read(int(number), b); !sameLists(got, l) || 256*good != len(b) || e != api.OK {
			t.Errorf("Read = %d records, %d, %v", len(got), good, e)
		}
	})
}
