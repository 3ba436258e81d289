package label

import (
	"bytes"
	"encoding/binary"
	"math"
	"math/rand"
	"regexp"
	"slices"
	"sort"
	"strconv"
	"strings"
	"testing"

	"tidepole/api"
)

// set is labels of names and values, in turns.
func set(words ...string) api.Labels {
	var l api.Labels
	for k := 0; k < len(words); k += 2 {
		l = append(l, api.Label{Name: words[k], Value: words[k+1]})
	}
	return l
}

// many is n labels whose names rise.
func many(n int) api.Labels {
	var l api.Labels
	for k := range n {
		l = append(l, api.Label{Name: "n" + strconv.Itoa(1000+k), Value: "v"})
	}
	return l
}

var nameForm = regexp.MustCompile(`\A[A-Za-z_][A-Za-z0-9_]{0,63}\z`)

// mayBe tells, as the chapter's words do, whether l is a set that may be.
func mayBe(l api.Labels) bool {
	for k, x := range l {
		if !nameForm.MatchString(x.Name) || len(x.Value) < 1 || len(x.Value) > 256 {
			return false
		}
		for _, y := range l[:k] {
			if y.Name >= x.Name {
				return false
			}
		}
	}
	return len(l) >= 1 && len(l) <= 16
}

// inOrder is labels sorted as the chapter's words tell it, one word behind the other.
func inOrder(l api.Labels) api.Labels {
	values := map[string]string{}
	for _, x := range l {
		if x.Value != "" {
			values[x.Name] = x.Value
		}
	}
	var names []string
	for name := range values {
		names = append(names, name)
	}
	sort.Strings(names)
	var out api.Labels
	for _, name := range names {
		out = append(out, api.Label{Name: name, Value: values[name]})
	}
	return out
}

// compared is how the chapter's words compare two sets.
func compared(a, b api.Labels) int {
	for k := 0; k < len(a) && k < len(b); k++ {
		if c := strings.Compare(a[k].Name, b[k].Name); c != 0 {
			return c
		}
		if c := strings.Compare(a[k].Value, b[k].Value); c != 0 {
			return c
		}
	}
	switch {
	case len(a) < len(b):
		return -1
	case len(a) > len(b):
		return 1
	}
	return 0
}

// bytesOf is n, and the names and values of l, as bytes, whether the set may be or not.
func bytesOf(n uint64, l api.Labels) []byte {
	b := binary.AppendUvarint(nil, n)
	for _, x := range l {
		b = append(binary.AppendUvarint(b, uint64(len(x.Name))), x.Name...)
		b = append(binary.AppendUvarint(b, uint64(len(x.Value))), x.Value...)
	}
	return b
}

// good are sets that may be, with those at the edges.
func good() []api.Labels {
	var full api.Labels
	for k := range api.MaxLabels {
		name := string(rune('a'+k)) + strings.Repeat("z", api.MaxName-1)
		full = append(full, api.Label{Name: name, Value: strings.Repeat("\xff", api.MaxValue)})
	}
	return []api.Labels{
		set("a", "1"), set("Z", "1"), set("_", "1"), set("_0", "1"), set("a9_Z", "x"), set("__", "\x00"), set("m", "=,"), set("A", "é\n"),
		set(strings.Repeat("a", api.MaxName), "1"), set("a", strings.Repeat("1", api.MaxValue)), set("a", strings.Repeat("b", api.MaxValue-1)),
		set("a", "1", "b", "3"), set("a", "1", "aa", "9", "b", "3"), set("a", "b", "b", "a"), set("A", "1", "Z", "1", "_", "1", "a", "1", "z", "1"),
		set("a", "1", "a0", "1", "aA", "1", "a_", "1", "aa", "1"), many(api.MaxLabels - 1), many(api.MaxLabels), full,
	}
}

// bad are sets that may not be, by names.
func bad() map[string]api.Labels {
	l := map[string]api.Labels{
		"nil":                              nil,
		"empty":                            {},
		"one label too many":               many(api.MaxLabels + 1),
		"many labels too many":             many(300),
		"an empty label":                   set("", ""),
		"an empty name":                    set("", "x"),
		"an empty name ahead of another":   set("", "x", "a", "x"),
		"a name that is too long":          set(strings.Repeat("a", api.MaxName+1), "x"),
		"a name far too long":              set(strings.Repeat("a", 1000), "x"),
		"an empty value":                   set("a", ""),
		"an empty value behind another":    set("a", "x", "b", ""),
		"an empty value ahead of another":  set("a", "", "b", "x"),
		"a value that is too long":         set("a", strings.Repeat("x", api.MaxValue+1)),
		"a value too long behind another":  set("a", "x", "b", strings.Repeat("x", api.MaxValue+1)),
		"names that fall":                  set("b", "x", "a", "x"),
		"names that fall at the end":       set("a", "x", "c", "x", "b", "x"),
		"names that fall at the beginning": set("b", "x", "a", "x", "c", "x"),
		"a name twice":                     set("a", "x", "a", "x"),
		"a name twice, values rising":      set("a", "x", "a", "y"),
		"a name twice at the end":          set("a", "x", "b", "x", "b", "y"),
		"a name and its beginning":         set("aa", "x", "a", "x"),
		"capitals behind small letters":    set("a", "x", "A", "x"),
		"a digit first":                    set("1", "x"),
		"a digit 0 first":                  set("0a", "x"),
		"a digit 9 first":                  set("9_", "x"),
		"a digit first ahead of another":   set("1", "x", "a", "x"),
		"an empty value between others":    set("A", "x", "_", "x", "a", "x", "a1", "x", "b", "", "c", "x"),
		"a letter of two bytes":            set("é", "x"),
		"a letter of two bytes in it":      set("aéb", "x"),
		"a byte that is no letter":         set("a\xff", "x"),
		"a zero byte":                      set("a\x00", "x"),
		"a line feed at the end":           set("a\n", "x"),
		"a wrong sign at the 64th place":   set(strings.Repeat("a", api.MaxName-1)+"-", "x"),
		"a wrong name at the end":          set("a", "x", "b-", "x"),
		"a wrong name at the beginning":    set("a-", "x", "b", "x"),
	}
	for _, c := range []byte("-+./:;<=>?@[\\]^`{|}~ !\"#$%&'()*,\x7f\x80\xc3") {
		l["the sign "+strconv.Itoa(int(c))+" in a name"] = set("a"+string([]byte{c})+"b", "x")
		l["the sign "+strconv.Itoa(int(c))+" first"] = set(string([]byte{c}), "x")
	}
	return l
}

// drawn is a set of few names and values, so that many are the same, or nearly; it may be or not.
func drawn(r *rand.Rand) api.Labels {
	names := []string{"a", "b", "aa", "ab", "B", "_", "a1", "c"}
	if r.Intn(8) == 0 {
		names = append(names, "1", "a-", "")
	}
	values := []string{"x", "y", "xx", "X", "\xff", "x", ""}
	var l api.Labels
	for range r.Intn(7) {
		l = append(l, api.Label{Name: names[r.Intn(len(names))], Value: values[r.Intn(len(values))]})
	}
	return l
}

func TestCheck(t *testing.T) { // 4.1
	for _, l := range good() {
		if e := Check(l); e != api.OK || !mayBe(l) {
			t.Errorf("Check(%q) = %v", l, e)
		}
	}
	for what, l := range bad() {
		if e := Check(l); e != api.ErrLabel || mayBe(l) {
			t.Errorf("Check of %s = %v, want ErrLabel", what, e)
		}
	}
}

func TestCheckEachSign(t *testing.T) { // 4.1: of all bytes, first and further on
	for c := range 256 {
		for _, name := range []string{string([]byte{byte(c)}), string([]byte{'a', byte(c)}), string([]byte{'_', byte(c), 'Z'})} {
			want := api.ErrLabel
			if mayBe(set(name, "x")) {
				want = api.OK
			}
			if e := Check(set(name, "x")); e != want {
				t.Errorf("Check of the name %q = %v, want %v", name, e, want)
			}
		}
		if e := Check(set("a", string([]byte{byte(c)}))); e != api.OK { // a value may have any
			t.Errorf("Check of the value of the byte %d = %v", c, e)
		}
	}
}

func TestCheckByTheWords(t *testing.T) { // 4.1
	r := rand.New(rand.NewSource(4))
	for range 20000 {
		l := drawn(r)
		if e := Check(l); (e == api.OK) != mayBe(l) || e != api.OK && e != api.ErrLabel {
			t.Fatalf("Check(%q) = %v", l, e)
		}
	}
}

func TestSort(t *testing.T) { // 4.1
	for _, c := range []struct{ l, want api.Labels }{
		{set("b", "2", "a", "1", "b", "3", "c", ""), set("a", "1", "b", "3")}, // the chapter's example
		{set("a", "1"), set("a", "1")},
		{set("b", "1", "a", "2"), set("a", "2", "b", "1")},
		{set("a", "2", "a", "1"), set("a", "1")},
		{set("a", "1", "a", "2", "a", "1", "a", "3", "a", "0"), set("a", "0")},
		{set("b", "1", "a", "9", "b", "3", "a", "8", "b", "2"), set("a", "8", "b", "2")},
		{set("a", "", "b", "1", "c", ""), set("b", "1")},
		{set("a", "", "a", "1"), set("a", "1")},
		{set("a", "1", "a", ""), set("a", "1")}, // an empty one goes first, and then it is one alone
		{set("a", "1", "a", "2", "a", ""), set("a", "2")},
		{set("", "", "1", "", "a-", "", "a", "x"), set("a", "x")}, // what goes may have any name
		{append(many(api.MaxLabels), many(api.MaxLabels)...), many(api.MaxLabels)},
		{append(many(api.MaxLabels), set("z", "", "y", "")...), many(api.MaxLabels)},
	} {
		if l, e := Sort(c.l); !slices.Equal(l, c.want) || e != api.OK {
			t.Errorf("Sort(%q) = %q, %v, want %q", c.l, l, e, c.want)
		}
	}
	for _, l := range good() {
		if got, e := Sort(l); !slices.Equal(got, l) || e != api.OK {
			t.Errorf("Sort(%q) = %q, %v", l, got, e)
		}
	}
}

func TestSortRefuses(t *testing.T) { // 4.1, P1
	for _, l := range []api.Labels{
		nil, {}, set("a", ""), set("a", "", "b", ""), set("a", "", "a", ""), set("", "x"), set("a", "1", "1", "x"), set("b", "1", "a-", "x"),
		set("b", "1", "a", strings.Repeat("x", api.MaxValue+1)), set("b", "1", strings.Repeat("a", api.MaxName+1), "x"),
		many(api.MaxLabels + 1), append(set("z", "1"), many(api.MaxLabels)...),
	} {
		if got, e := Sort(l); got != nil || e != api.ErrLabel {
			t.Errorf("Sort(%q) = %q, %v, want ErrLabel", l, got, e)
		}
	}
	wrong := strings.Repeat("x", api.MaxValue+1)
	if got, e := Sort(set("a", wrong, "a", "1")); !slices.Equal(got, set("a", "1")) || e != api.OK { // what does not stay may be wrong
		t.Errorf("Sort of a wrong value, and a right one = %q, %v", got, e)
	}
}

func TestSortByTheWords(t *testing.T) { // 4.1, 4.5
	r := rand.New(rand.NewSource(5))
	for range 20000 {
		l := drawn(r)
		want := inOrder(l)
		got, e := Sort(l)
		if !mayBe(want) {
			if got != nil || e != api.ErrLabel {
				t.Fatalf("Sort(%q) = %q, %v, want ErrLabel", l, got, e)
			}
			continue
		}
		if !slices.Equal(got, want) || e != api.OK {
			t.Fatalf("Sort(%q) = %q, %v, want %q", l, got, e, want)
		}
		if again, e := Sort(got); !slices.Equal(again, got) || e != api.OK {
			t.Fatalf("Sort(%q) = %q, %v", got, again, e)
		}
	}
}

func TestSortMany(t *testing.T) { // 4.1: of many labels, still the last ones
	var l api.Labels
	for k := range 10000 {
		l = append(l, api.Label{Name: "n" + strconv.Itoa(k*7919%16), Value: strconv.Itoa(k)})
	}
	if got, e := Sort(l); !slices.Equal(got, inOrder(l)) || e != api.OK {
		t.Errorf("Sort of 10000 labels = %q, %v, want %q", got, e, inOrder(l))
	}
}

func TestAnyOrder(t *testing.T) { // 4.5
	r := rand.New(rand.NewSource(6))
	for _, l := range good() {
		for range 50 {
			other := append(slices.Clone(l), set("n", "")...)
			r.Shuffle(len(other), func(i, j int) { other[i], other[j] = other[j], other[i] })
			if got, e := Sort(other); !slices.Equal(got, l) || e != api.OK {
				t.Fatalf("Sort(%q) = %q, %v", other, got, e)
			}
		}
	}
}

func TestCompare(t *testing.T) { // 4.1
	for _, c := range []struct {
		a, b api.Labels
		want int
	}{
		{nil, nil, 0},
		{nil, api.Labels{}, 0},
		{nil, set("a", "1"), -1},
		{set("a", "1"), set("a", "1"), 0},
		{set("a", "1"), set("b", "1"), -1},
		{set("a", "2"), set("b", "1"), -1}, // the name is ahead of the value
		{set("a", "1"), set("a", "2"), -1},
		{set("a", "1"), set("a", "10"), -1},
		{set("a", "10"), set("a", "2"), -1},
		{set("a", "1"), set("aa", "1"), -1},
		{set("Z", "1"), set("a", "1"), -1},
		{set("a", "a"), set("a", "\xff"), -1},
		{set("a", "1"), set("a", "1", "b", "1"), -1}, // the one that has fewer
		{set("a", "1", "b", "9"), set("a", "2"), -1}, // not, if one differs
		{set("a", "1", "b", "1"), set("a", "1", "c", "1"), -1},
		{set("a", "1", "b", "1", "c", "9"), set("a", "1", "b", "2"), -1},
		{set("a", "1", "b", "2", "c", "1"), set("a", "2", "b", "1"), -1}, // the first that differs
		{set("b", "1", "a", "1"), set("b", "1", "a", "1"), 0},            // of any two
		{set("", ""), set("", ""), 0},
		{set("", ""), set("", "", "", ""), -1},
		{many(300), many(300), 0},
		{many(300), many(301), -1},
	} {
		if got := Compare(c.a, c.b); got != c.want {
			t.Errorf("Compare(%q, %q) = %d, want %d", c.a, c.b, got, c.want)
		}
		if got := Compare(c.b, c.a); got != -c.want {
			t.Errorf("Compare(%q, %q) = %d, want %d", c.b, c.a, got, -c.want)
		}
	}
}

func TestOneOrder(t *testing.T) { // 4.4
	r := rand.New(rand.NewSource(7))
	l := good()
	for _, x := range bad() {
		l = append(l, x)
	}
	for range 60 {
		l = append(l, drawn(r))
	}
	for _, a := range l {
		for _, b := range l {
			ab := Compare(a, b)
			if ab != compared(a, b) || ab != -Compare(b, a) || (ab == 0) != slices.Equal(a, b) {
				t.Fatalf("Compare(%q, %q) = %d, turned round %d", a, b, ab, Compare(b, a))
			}
			for _, c := range l {
				if ab <= 0 && Compare(b, c) <= 0 && Compare(a, c) != min(ab, Compare(b, c)) {
					t.Fatalf("%q, %q, %q do not go on", a, b, c)
				}
			}
		}
	}
}

func TestGet(t *testing.T) { // 4.1
	l := set("A", "0", "a", "1", "aa", "9", "b", "3")
	for name, want := range map[string]string{"A": "0", "a": "1", "aa": "9", "b": "3", "": "", "B": "", "ab": "", "c": "", "9": "", "a ": "", "b\x00": "", "1": ""} {
		if got := Get(l, name); got != want {
			t.Errorf("Get(%q) = %q, want %q", name, got, want)
		}
	}
	for _, l := range good() {
		for _, x := range l {
			if got := Get(l, x.Name); got != x.Value {
				t.Errorf("Get(%q, %q) = %q", l, x.Name, got)
			}
		}
	}
	if got := Get(nil, "a"); got != "" {
		t.Errorf("Get of none = %q", got)
	}
	if got := Get(set("b", "1", "a", "2"), "a"); got != "2" { // of a set that may not be, too
		t.Errorf("Get of labels that do not rise = %q", got)
	}
}

func TestWith(t *testing.T) { // 4.2
	l := set("b", "2", "d", "4")
	long := strings.Repeat("x", api.MaxValue)
	for _, c := range []struct {
		name, value string
		want        api.Labels
	}{
		{"a", "1", set("a", "1", "b", "2", "d", "4")},
		{"c", "3", set("b", "2", "c", "3", "d", "4")},
		{"e", "5", set("b", "2", "d", "4", "e", "5")},
		{"B", "5", set("B", "5", "b", "2", "d", "4")},
		{"b", "9", set("b", "9", "d", "4")},
		{"d", "9", set("b", "2", "d", "9")},
		{"b", "2", l},
		{"b", "", set("d", "4")},
		{"d", "", set("b", "2")},
		{"c", "", l},
		{"b", long, set("b", long, "d", "4")},
		{strings.Repeat("a", api.MaxName), "1", set(strings.Repeat("a", api.MaxName), "1", "b", "2", "d", "4")},
		{"", "", l}, // a name that may not be is not in it
		{"a-", "", l},
		{"1", "", l},
	} {
		if got, e := With(l, c.name, c.value); !slices.Equal(got, c.want) || e != api.OK {
			t.Errorf("With(%q, %q) = %q, %v, want %q", c.name, c.value, got, e, c.want)
		}
	}
}

func TestWithRefuses(t *testing.T) { // 4.2, P1
	l := set("b", "2", "d", "4")
	for _, c := range []struct {
		l           api.Labels
		name, value string
	}{
		{l, "", "1"}, {l, "1", "1"}, {l, "a-", "1"}, {l, "é", "1"}, {l, strings.Repeat("a", api.MaxName+1), "1"},
		{l, "a", strings.Repeat("x", api.MaxValue+1)}, {l, "b", strings.Repeat("x", api.MaxValue+1)},
		{set("b", "2"), "b", ""}, // the last one
		{many(api.MaxLabels), "a", "1"}, {many(api.MaxLabels), "z", "1"},
	} {
		if got, e := With(c.l, c.name, c.value); got != nil || e != api.ErrLabel {
			t.Errorf("With(%q, %q, %q) = %q, %v, want ErrLabel", c.l, c.name, c.value, got, e)
		}
	}
	for what, l := range bad() {
		for _, c := range [][2]string{{"a", "1"}, {"a", ""}, {"b", "1"}, {"b", ""}, {"zz", "1"}, {"", ""}, {"", "x"}} {
			if got, e := With(l, c[0], c[1]); got != nil || e != api.ErrLabel {
				t.Errorf("With(%s, %q, %q) = %q, %v, want ErrLabel", what, c[0], c[1], got, e)
			}
		}
	}
	full := many(api.MaxLabels)
	for _, x := range full { // no label more: it may be
		if got, e := With(full, x.Name, "other"); len(got) != len(full) || Get(got, x.Name) != "other" || e != api.OK {
			t.Errorf("With(MaxLabels labels, %q) = %q, %v", x.Name, got, e)
		}
	}
}

func TestWithByTheWords(t *testing.T) { // 4.2
	r := rand.New(rand.NewSource(8))
	for range 20000 {
		l, x := drawn(r), append(drawn(r), api.Label{Name: "b"})[0]
		if r.Intn(4) > 0 {
			l = inOrder(l)
		}
		var want api.Labels
		for _, y := range l {
			if y.Name != x.Name {
				want = append(want, y)
			}
		}
		if x.Value != "" {
			want = append(want, x)
		}
		slices.SortFunc(want, func(a, b api.Label) int { return strings.Compare(a.Name, b.Name) })
		wantError := api.OK
		if !mayBe(l) || !mayBe(want) {
			want, wantError = nil, api.ErrLabel
		}
		if got, e := With(l, x.Name, x.Value); !slices.Equal(got, want) || e != wantError {
			t.Fatalf("With(%q, %q, %q) = %q, %v, want %q, %v", l, x.Name, x.Value, got, e, want, wantError)
		}
	}
}

func TestWithAndBack(t *testing.T) { // 4.6
	sets := append(good(), set("a", "1"), set("zz", "1", "zzz", "2"))
	for _, l := range sets {
		names := []string{"a", "zz", "M", "_"}
		for _, x := range l {
			names = append(names, x.Name)
		}
		for _, name := range names {
			for _, value := range []string{"v", "1", "other", ""} {
				there, e := With(l, name, value)
				if e != api.OK { // the last one goes, or there is one too many
					continue
				}
				if back, e := With(there, name, Get(l, name)); !slices.Equal(back, l) || e != api.OK {
					t.Errorf("With(%q, %q, %q), and back: %q, %v", l, name, value, back, e)
				}
			}
		}
	}
}

func TestPut(t *testing.T) { // 4.2
	l := set("a", "1", "bc", "345")
	if b, e := Put([]byte{7}, l); !bytes.Equal(b, []byte("\x07\x02\x01a\x011\x02bc\x03345")) || e != api.OK {
		t.Errorf("Put = %v, %v", b, e)
	}
	for _, l := range good() {
		for _, ahead := range [][]byte{nil, {}, {0}, []byte("some"), make([]byte, 1000)} {
			b, e := Put(ahead, l)
			if want := append(slices.Clone(ahead), bytesOf(uint64(len(l)), l)...); !bytes.Equal(b, want) || e != api.OK {
				t.Errorf("Put(%v, %q) = %v, %v, want %v", ahead, l, b, e, want)
			}
		}
	}
	for what, l := range bad() {
		for _, ahead := range [][]byte{nil, {7}} {
			if b, e := Put(ahead, l); b != nil || e != api.ErrLabel {
				t.Errorf("Put of %s = %v, %v, want ErrLabel", what, b, e)
			}
		}
	}
}

func TestBack(t *testing.T) { // 4.3
	for _, l := range good() {
		for _, ahead := range [][]byte{nil, {0}, []byte("some")} {
			b, _ := Put(ahead, l)
			for _, behind := range [][]byte{nil, {0}, {255}, bytesOf(uint64(len(l)), l)} {
				got, at, e := Read(append(slices.Clone(b), behind...), len(ahead))
				if !slices.Equal(got, l) || at != len(b) || e != api.OK {
					t.Errorf("Read(%q) = %q, %d, %v, want the place %d", l, got, at, e, len(b))
				}
			}
		}
	}
}

// checkOneWay reads b at a place and, if there is a set, puts it again.
func checkOneWay(t *testing.T, b []byte, at int) {
	l, end, e := Read(b, at)
	if e != api.OK {
		if l != nil || end != 0 {
			t.Errorf("Read(%q, %d) = %q, %d beside %v", b, at, l, end, e)
		}
		return
	}
	if !mayBe(l) {
		t.Errorf("Read(%q, %d) = %q, which may not be", b, at, l)
	}
	if again, e := Put(b[:at], l); !bytes.Equal(again, b[:end]) || e != api.OK {
		t.Errorf("Read(%q, %d) = %q, put again: %q, %v", b, at, l, again, e)
	}
}

func TestOneWay(t *testing.T) { // 4.3: with each byte another one
	for _, l := range []api.Labels{set("a", "1"), set("a", "1", "b", "3"), set("a", "1", "aa", "2", "b", "300")} {
		b, _ := Put(nil, l)
		for k := range b {
			for x := range 256 {
				other := slices.Clone(b)
				other[k] = byte(x)
				for at := range 3 {
					checkOneWay(t, other, at)
				}
			}
		}
	}
}

func TestReadEachBeginning(t *testing.T) { // 4.2, P1: cut anywhere, a set is not there
	for _, l := range good() {
		b, _ := Put([]byte{9}, l)
		for k := 1; k < len(b); k++ {
			if got, at, e := Read(b[:k], 1); got != nil || at != 0 || e != api.ErrShort {
				t.Fatalf("Read of the first %d bytes of %q = %q, %d, %v, want ErrShort", k, l, got, at, e)
			}
		}
	}
}

func TestReadSetsThatMayNotBe(t *testing.T) { // 4.2, P1
	for what, l := range bad() {
		for _, ahead := range []int{0, 3} {
			b := append(make([]byte, ahead), bytesOf(uint64(len(l)), l)...)
			if got, at, e := Read(b, ahead); got != nil || at != 0 || e != api.ErrLabel {
				t.Errorf("Read of %s = %q, %d, %v, want ErrLabel", what, got, at, e)
			}
			if len(l) == 0 {
				continue
			}
			if got, at, e := Read(b[:len(b)-1], ahead); got != nil || at != 0 || e != api.ErrShort { // the error that is named first
				t.Errorf("Read of %s without its last byte = %q, %d, %v, want ErrShort", what, got, at, e)
			}
		}
	}
}

func TestReadErrors(t *testing.T) { // 4.2, P1
	long := api.Label{Name: "a", Value: strings.Repeat("x", api.MaxBytes)}
	longer := api.Label{Name: "a", Value: strings.Repeat("x", api.MaxBytes+1)}
	for _, c := range []struct {
		name string
		b    []byte
		at   int
		want api.Errno
	}{
		{"a place below 0", bytesOf(1, set("a", "1")), -1, api.ErrArg},
		{"the least place", bytesOf(1, set("a", "1")), math.MinInt, api.ErrArg},
		{"a place above the length", bytesOf(1, set("a", "1")), 6, api.ErrArg},
		{"the greatest place", bytesOf(1, set("a", "1")), math.MaxInt, api.ErrArg},
		{"a place in none", nil, 1, api.ErrArg},
		{"no bytes", nil, 0, api.ErrShort},
		{"the place at the end", bytesOf(1, set("a", "1")), 5, api.ErrShort},
		{"no label", []byte{0}, 0, api.ErrLabel},
		{"no label, ahead of one", []byte{0, 1, 'a', 1, '1'}, 0, api.ErrLabel},
		{"a number of two bytes for one", []byte{129, 0, 1, 'a', 1, '1'}, 0, api.ErrVint},
		{"a name's length of two bytes for one", []byte{1, 129, 0, 'a', 1, '1'}, 0, api.ErrVint},
		{"a value's length of two bytes for one", []byte{1, 1, 'a', 129, 0, '1'}, 0, api.ErrVint},
		{"a value's length of two bytes for one, behind a wrong name", []byte{1, 1, '-', 129, 0, '1'}, 0, api.ErrVint},
		{"a number that does not end", []byte{129}, 0, api.ErrShort},
		{"a name's length that does not end", []byte{1, 129}, 0, api.ErrShort},
		{"a number of more than 64 bits", append(bytes.Repeat([]byte{255}, 10), 1), 0, api.ErrVint},
		{"a name of MaxBytes and one", bytesOf(1, api.Labels{{Name: longer.Value, Value: "1"}}), 0, api.ErrLong},
		{"a value of MaxBytes and one", bytesOf(1, api.Labels{longer}), 0, api.ErrLong},
		{"a value of MaxBytes", bytesOf(1, api.Labels{long}), 0, api.ErrLabel},
		{"a value of MaxBytes and one, that is not there", bytesOf(1, api.Labels{longer})[:8], 0, api.ErrLong},
		{"one label too few", bytesOf(2, set("a", "1")), 0, api.ErrShort},
		{"more labels than may be", bytesOf(17, many(17)), 0, api.ErrLabel},
		{"more labels than may be, and more behind them", bytesOf(17, many(20)), 0, api.ErrLabel},
		{"more labels than may be, and the last one's end missing", bytesOf(18, many(17)), 0, api.ErrShort},
		{"as many labels as can be told", bytesOf(math.MaxUint64, many(40)), 0, api.ErrShort},
		{"as many empty labels as can be told", append(bytesOf(math.MaxUint64, nil), make([]byte, 1000)...), 0, api.ErrShort},
		{"17 labels, the last one with a length of two bytes for one", append(bytesOf(17, many(16)), 129, 0, 'x', 1, 'x'), 0, api.ErrVint},
		{"a wrong name, and then no more", []byte{2, 1, '-', 1, '1'}, 0, api.ErrShort},
		{"an empty value, and then no more", []byte{2, 1, 'a', 0}, 0, api.ErrShort},
		{"names that fall, and then no more", []byte{3, 1, 'b', 1, '1', 1, 'a', 1, '1'}, 0, api.ErrShort},
	} {
		if l, at, e := Read(c.b, c.at); l != nil || at != 0 || e != c.want {
			t.Errorf("Read of %s = %q, %d, %v, want %v", c.name, l, at, e, c.want)
		}
	}
}

func TestText(t *testing.T) { // 4.2
	for _, c := range []struct {
		l    api.Labels
		want string
	}{
		{nil, ""},
		{api.Labels{}, ""},
		{set("a", "1"), "a=1"},
		{set("a", "1", "b", "3"), "a=1,b=3"},
		{set("a", "=,", "b", "\n\"\xff"), "a==,,b=\n\"\xff"}, // as it is
		{set("b", "1", "a", "2", "a", ""), "b=1,a=2,a="},     // of any
		{set("", ""), "="},
		{set("", "", "", ""), "=,="},
	} {
		if got := Text(c.l); got != c.want {
			t.Errorf("Text(%q) = %q, want %q", c.l, got, c.want)
		}
	}
}

func TestPairsMayBeLeft(t *testing.T) { // the iterator ends where the loop over it does
	seen := 0
	for x, y := range pairs(set("a", "1", "b", "2", "c", "3"), set("d", "4", "e", "5")) {
		if seen++; x.Name != "a" || y.Name != "d" {
			t.Errorf("the pair %d is %q, %q", seen, x, y)
		}
		break
	}
	if seen != 1 {
		t.Errorf("%d pairs were seen", seen)
	}
}

// roomy is a list that has room behind it, and all of it.
func roomy(l api.Labels) (part, all api.Labels) {
	all = append(slices.Clone(l), set("room", "room", "more", "more", "end", "end")...)
	return all[:len(l)], all
}

func TestCallsLeaveTheirArguments(t *testing.T) { // P2: not even the room behind them is written to
	sets := good()
	for _, l := range bad() {
		sets = append(sets, l)
	}
	sets = append(sets, set("b", "2", "a", "1", "b", "3", "c", ""))
	for _, x := range sets {
		l, all := roomy(x)
		kept := slices.Clone(all)
		m, allOther := roomy(set("a", "1", "b", "2"))
		keptOther := slices.Clone(allOther)
		b := []byte("some bytes that go on")
		Check(l)
		Sort(l)
		Compare(l, m)
		Compare(m, l)
		Get(l, "b")
		With(l, "b", "9")
		With(l, "b", "")
		With(l, "bb", "9")
		Put(b[:4], l)
		Read(b, 4)
		Text(l)
		if !slices.Equal(all, kept) || !slices.Equal(allOther, keptOther) || string(b) != "some bytes that go on" {
			t.Fatalf("%q became %q, %q, %q", kept, all, allOther, b)
		}
	}
}

func TestAnswersAreNewMemory(t *testing.T) { // P2: what is handed out is the caller's own
	l := set("a", "1", "b", "2")
	sorted, _ := Sort(l)
	same, _ := With(l, "c", "")
	other, _ := With(l, "c", "3")
	b := make([]byte, 3, 100)
	put, _ := Put(b, l)
	read, _, _ := Read(put, 3)
	for _, x := range []api.Labels{sorted, same, other, read} {
		x[0].Value = "changed"
	}
	if !slices.Equal(l, set("a", "1", "b", "2")) {
		t.Errorf("the set became %q", l)
	}
	again, _, _ := Read(put, 3)
	put[0] = 7
	for k := range put {
		put[k] = 'z'
	}
	if b[0] != 0 || !slices.Equal(again, l) {
		t.Errorf("the bytes became %v, what was read of them %q", b, again)
	}
}

func TestRefusedCallsLeaveNothing(t *testing.T) { // P2: the same call answers the same behind refused ones
	ask := func() []any {
		l, e := Sort(set("b", "2", "a", "1"))
		m, f := With(l, "c", "3")
		b, g := Put(nil, m)
		x, at, h := Read(b, 0)
		return []any{Text(l), e, Text(m), f, string(b), g, Text(x), at, h}
	}
	want := ask()
	for _, l := range bad() {
		Sort(l)
		With(l, "a", "1")
		Put(nil, l)
		Read(bytesOf(uint64(len(l)), l), 0)
	}
	if got := ask(); !slices.Equal(got, want) {
		t.Errorf("%v behind refused calls, %v ahead of them", got, want)
	}
}

func FuzzRead(f *testing.F) { // 4.2, 4.3, P1
	for _, l := range good() {
		f.Add(bytesOf(uint64(len(l)), l), 0)
	}
	for _, l := range bad() {
		f.Add(bytesOf(uint64(len(l)), l), 0)
	}
	f.Add([]byte{7, 1, 1, 'a', 1, '1'}, 1)
	f.Fuzz(func(t *testing.T, b []byte, at int) { checkOneWay(t, b, at) })
}

func FuzzSort(f *testing.F) { // 4.1, 4.2, 4.4 to 4.6, P1
	f.Add("b=2,a=1,b=3,c=", "a", "9")
	f.Add("", "", "")
	f.Add("a=1,b=2", "b", "")
	f.Fuzz(func(t *testing.T, text, name, value string) {
		var l api.Labels
		for _, word := range strings.Split(text, ",") {
			name, value, _ := strings.Cut(word, "=")
			l = append(l, api.Label{Name: name, Value: value})
		}
		got, e := Sort(l)
		if want := inOrder(l); mayBe(want) != (e == api.OK) || e == api.OK && !slices.Equal(got, want) {
			t.Fatalf("Sort(%q) = %q, %v", l, got, e)
		}
		if c := Compare(l, got); c != compared(l, got) {
			t.Fatalf("Compare(%q, %q) = %d", l, got, c)
		}
		there, e := With(got, name, value)
		if e != api.OK {
			return
		}
		if back, e := With(there, name, Get(got, name)); !slices.Equal(back, got) || e != api.OK || Get(there, name) != value {
			t.Fatalf("With(%q, %q, %q) = %q, and back: %q, %v", got, name, value, there, back, e)
		}
	})
}
