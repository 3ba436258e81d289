package sym

import (
	"bytes"
	"encoding/binary"
	"math/rand"
	"reflect"
	"sort"
	"strings"
	"testing"

	"tidepole/api"
)

// words is a table as the chapter's words tell it: which texts there are.
type words map[string]bool

func wordsOf(l ...string) words {
	w := words{}
	for _, s := range l {
		w[s] = true
	}
	return w
}

// mayBe tells whether a table may have these texts.
func (w words) mayBe() bool {
	for s := range w {
		if len(s) > 256 {
			return false
		}
	}
	return len(w) <= 4096
}

// texts is the table's texts, each at its number.
func (w words) texts() []string {
	l := []string{}
	for s := range w {
		l = append(l, s)
	}
	sort.Strings(l)
	return l
}

// ahead is how many texts are ahead of s.
func (w words) ahead(s string) int {
	n := 0
	for x := range w {
		if x < s {
			n++
		}
	}
	return n
}

func (w words) from(prefix string) []string {
	var l []string
	for _, s := range w.texts() {
		if len(s) >= len(prefix) && s[:len(prefix)] == prefix {
			l = append(l, s)
		}
	}
	return l
}

// asMany is how many bytes two texts have in common at their beginnings: as many as can be.
func asMany(a, b string) int {
	k := 0
	for strings.HasPrefix(a, b[:k]) {
		if k++; k > len(b) {
			break
		}
	}
	return k - 1
}

// told is the bytes that tell these texts, whether or not a table may have them.
func told(l []string) []byte {
	b := binary.AppendUvarint(nil, uint64(len(l)))
	for k, s := range l {
		same := 0
		if k > 0 {
			same = asMany(l[k-1], s)
		}
		b = append(b, row(uint64(same), s[same:])...)
	}
	return b
}

// row is the bytes of a text: how many it has in common with the last one, and the rest, with its size ahead.
func row(same uint64, rest string) []byte {
	b := binary.AppendUvarint(nil, same)
	b = binary.AppendUvarint(b, uint64(len(rest)))
	return append(b, rest...)
}

// rows is n, and the rows behind it.
func rows(n uint64, l ...[]byte) []byte {
	return append(binary.AppendUvarint(nil, n), bytes.Join(l, nil)...)
}

// numberAt is a number by the words of chapter 1, and the place behind it.
func numberAt(b []byte, at int) (uint64, int, api.Errno) {
	if at < 0 || at > len(b) {
		return 0, 0, api.ErrArg
	}
	for k := at; k < len(b); k++ {
		if b[k]&128 == 0 {
			n, _ := binary.Uvarint(b[at : k+1])
			if !bytes.Equal(binary.AppendUvarint(nil, n), b[at:k+1]) {
				return 0, 0, api.ErrVint
			}
			return n, k + 1, api.OK
		}
	}
	return 0, 0, api.ErrShort
}

// asRead is what the chapter's words say that Read answers: first vint's errors, of all that is there, then whether just these bytes are a table's.
func asRead(b []byte, at int) (words, int, api.Errno) {
	n, end, e := numberAt(b, at)
	if e != api.OK {
		return nil, 0, e
	}
	var l []string
	last, may := "", true
	for range n {
		var same, size uint64
		if same, end, e = numberAt(b, end); e != api.OK {
			return nil, 0, e
		}
		if size, end, e = numberAt(b, end); e != api.OK {
			return nil, 0, e
		}
		if size > 65536 {
			return nil, 0, api.ErrLong
		}
		if size > uint64(len(b)-end) {
			return nil, 0, api.ErrShort
		}
		rest := string(b[end : end+int(size)])
		end += int(size)
		if same > uint64(len(last)) {
			may, same = false, 0
		}
		last = last[:same] + rest
		l = append(l, last)
	}
	w := wordsOf(l...)
	if !may || !w.mayBe() || !bytes.Equal(told(w.texts()), b[at:end]) {
		return nil, 0, api.ErrSym
	}
	return w, end, api.OK
}

// mustHave holds all that t tells against the words, and changes what it hands out.
func mustHave(t *testing.T, x Table, w words) {
	t.Helper()
	texts := w.texts()
	for range 2 {
		if x.Len() != len(texts) {
			t.Fatalf("Len(): %d, want %d", x.Len(), len(texts))
		}
		for n, s := range texts {
			mustGet(t, x, n, s, api.OK)
			mustFind(t, x, s, n, true)
		}
		mustGet(t, x, -1, "", api.ErrNone)
		mustGet(t, x, len(texts), "", api.ErrNone)
		mustGive(t, x, texts)
		b := x.Bytes()
		if !bytes.Equal(b, told(texts)) {
			t.Fatalf("Bytes(): %v, want %v", b, told(texts))
		}
		spoil(b)
		all := x.From("")
		if !sameTexts(all, texts) {
			t.Fatalf("From of the empty text: %q, want %q", all, texts)
		}
		spoilTexts(all)
	}
}

func mustGet(t *testing.T, x Table, n int, want string, wantE api.Errno) {
	t.Helper()
	if s, e := x.Get(n); s != want || e != wantE {
		t.Fatalf("Get(%d): %q, %v, want %q, %v", n, s, e, want, wantE)
	}
}

func mustFind(t *testing.T, x Table, s string, want int, wantOK bool) {
	t.Helper()
	if n, ok := x.Find(s); n != want || ok != wantOK {
		t.Fatalf("Find(%q): %d, %v, want %d, %v", s, n, ok, want, wantOK)
	}
}

// mustGive goes through All twice to its end, and once to each of its places.
func mustGive(t *testing.T, x Table, texts []string) {
	t.Helper()
	all := x.All()
	for range 2 {
		at := 0
		for n, s := range all {
			if n != at || n >= len(texts) || s != texts[n] {
				t.Fatalf("All() gives %d, %q, want %d of %q", n, s, at, texts)
			}
			at++
		}
		if at != len(texts) {
			t.Fatalf("All() gives %d texts of %q", at, texts)
		}
	}
	for stop := range min(len(texts), 40) {
		at := 0
		for n, s := range all {
			if n != at || s != texts[n] {
				t.Fatalf("All() gives %d, %q, want %d of %q", n, s, at, texts)
			}
			if at == stop {
				break
			}
			at++
		}
		if at != stop {
			t.Fatalf("All() that is broken off at %d came to %d", stop, at)
		}
	}
}

// mustMake is the table of l, which may be.
func mustMake(t *testing.T, l ...string) Table {
	t.Helper()
	x, e := Make(l...)
	if e != api.OK {
		t.Fatalf("Make of %d texts: %v", len(l), e)
	}
	return x
}

// mustRefuse asks that x and place, which came with an error, are zero values.
func mustRefuse(t *testing.T, what string, x Table, at int, e, want api.Errno) {
	t.Helper()
	if e != want || at != 0 || !reflect.DeepEqual(x, Table{}) {
		t.Fatalf("%s: %v, %d, %v, want %v", what, x, at, e, want)
	}
}

// mustReadAs holds Read against the words, also of the same bytes with others ahead and behind, and asks that nothing of b is changed.
func mustReadAs(t *testing.T, b []byte, at int) {
	t.Helper()
	elder := bytes.Clone(b)
	w, wantAt, wantE := asRead(b, at)
	x, end, e := Read(b, at)
	if !bytes.Equal(b, elder) {
		t.Fatalf("Read changed %v", elder)
	}
	if wantE != api.OK {
		mustRefuse(t, "Read", x, end, e, wantE)
		return
	}
	if e != api.OK || end != wantAt {
		t.Fatalf("Read(%v, %d): %d, %v, want %d", b, at, end, e, wantAt)
	}
	spoil(b)
	mustHave(t, x, w)
	copy(b, elder)
}

func sameTexts(a, b []string) bool {
	return len(a) == len(b) && (len(a) == 0 || reflect.DeepEqual(a, b))
}

func spoil(b []byte) {
	for k := range b {
		b[k] ^= 0xff
	}
}

func spoilTexts(l []string) {
	for k := range l {
		l[k] = "changed"
	}
}

// someTexts are texts at the edges: the empty one, bytes at the ends, some that begin alike, the longest.
func someTexts() []string {
	long := strings.Repeat("l", 255)
	return []string{
		"", "a", "aa", "aaa", "ab", "abc", "abd", "b", "ba", "job", "jo", "api", "\x00", "\x00\x00", "\xff", "\xff\xff", "a\x00", "a\xff", "\x7f", "\x80", "ä", "A", "é", "\xc3",
		long, long + "k", long + "l", long + "m", long[:254], strings.Repeat("m", 128), strings.Repeat("m", 127), strings.Repeat("m", 129),
	}
}

// drawnText is a text of up to size bytes of few kinds, so that many begin alike.
func drawnText(r *rand.Rand, size int) string {
	kinds := "ab\x00\xff"
	b := make([]byte, r.Intn(size+1))
	for k := range b {
		b[k] = kinds[r.Intn(1+r.Intn(len(kinds)))]
	}
	return string(b)
}

func drawnTexts(r *rand.Rand, n, size int) []string {
	var l []string
	for range n {
		if r.Intn(3) == 0 {
			l = append(l, someTexts()[r.Intn(len(someTexts()))])
		} else {
			l = append(l, drawnText(r, size))
		}
	}
	return l
}
