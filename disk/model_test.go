package disk

import (
	"bytes"
	"fmt"
	"math/rand"
	"slices"
	"sort"
	"strings"
	"testing"

	"tidepole/api"
)

// thing is a file of the model: what it has, and what is sure of it.
type thing struct{ has, sure []byte }

// entry is a name of a directory of the model.
type entry struct {
	name string
	file *thing
}

// model is a disk as the chapter's words tell it: two lists of names, looked through one by one.
type model struct {
	now, sure         []entry
	room, fuse, steps int
	gone              bool
}

func newModel(room int) *model { return &model{room: room, fuse: -1} }

func place(l []entry, name string) int {
	return slices.IndexFunc(l, func(x entry) bool { return x.name == name })
}

// wordsName says whether a name may be.
func wordsName(name string) bool {
	wrong := func(r byte) bool { return r < 33 || r > 126 }
	return len(name) >= 1 && len(name) <= 64 && !slices.ContainsFunc([]byte(name), wrong)
}

// wordsUsed is how many sectors such files take.
func wordsUsed(l []entry) int {
	n := 0
	for _, x := range l {
		for k := range x.file.has {
			if k%256 == 0 {
				n++
			}
		}
	}
	return n
}

// power is ErrPower, if the power is gone, or goes ahead of this step.
func (m *model) power() bool {
	if m.fuse == 0 {
		m.gone = true
	}
	return m.gone
}

// do is what the words say of a step.
func (m *model) do(o op) api.Errno {
	for _, name := range o.names() {
		if !wordsName(name) {
			return api.ErrArg
		}
	}
	if m.power() {
		return api.ErrPower
	}
	k := place(m.now, o.name)
	e := api.OK
	switch {
	case o.kind == syncDir:
		m.sure = slices.Clone(m.now)
	case o.kind == create && k >= 0:
		return api.ErrSame
	case o.kind == create:
		m.now = append(m.now, entry{o.name, &thing{}})
	case k < 0:
		return api.ErrNone
	case o.kind == remove:
		m.now = slices.Delete(m.now, k, k+1)
	case o.kind == rename:
		m.rename(k, o.to)
	default:
		e = m.change(m.now[k].file, o)
	}
	if e == api.OK {
		m.fuse--
		m.steps++
	}
	return e
}

func (m *model) rename(k int, to string) {
	file := m.now[k].file
	m.now = slices.Delete(m.now, k, k+1)
	if other := place(m.now, to); other >= 0 {
		m.now = slices.Delete(m.now, other, other+1)
	}
	m.now = append(m.now, entry{to, file})
}

// change is what the words say of a step that is of a file's bytes.
func (m *model) change(f *thing, o op) api.Errno {
	at := o.at
	switch o.kind {
	case doSync:
		f.sure = slices.Clone(f.has)
		return api.OK
	case add:
		at = len(f.has)
	}
	if at < 0 || at > len(f.has) {
		return api.ErrArg
	}
	if o.kind == cut {
		f.has = slices.Clone(f.has[:at])
		return api.OK
	}
	elder := f.has
	rest := elder[min(len(elder), at+len(o.b)):]
	f.has = slices.Concat(elder[:at], o.b, rest)
	e := api.OK
	if len(f.has) > 4194304 {
		e = api.ErrLong
	} else if wordsUsed(m.now) > m.room {
		e = api.ErrFull
	}
	if e != api.OK {
		f.has = elder
	}
	return e
}

// nought is the byte at a place, or 0 where there is none.
func nought(b []byte, k int) byte {
	if k < len(b) {
		return b[k]
	}
	return 0
}

// crash is what the words say of a crash.
func (m *model) crash(picks []int) {
	pick := func() int {
		if len(picks) == 0 {
			return 0
		}
		x := picks[0]
		picks = picks[1:]
		if x < 0 {
			return 0
		}
		return x
	}
	sort.Slice(m.sure, func(i, j int) bool { return m.sure[i].name < m.sure[j].name })
	for _, x := range m.sure {
		left := wordsLeft(*x.file, pick)
		*x.file = thing{left, slices.Clone(left)}
	}
	m.now = slices.Clone(m.sure)
	m.gone, m.fuse = false, -1
}

// wordsLeft is what a crash leaves of a file, byte by byte.
func wordsLeft(f thing, pick func() int) []byte {
	size := len(f.sure)
	if len(f.has) > size {
		size += pick() % (len(f.has) - size + 1)
	}
	left := []byte{}
	for len(left) < size {
		from, to := len(left), min(len(left)+256, size)
		differs := false
		for k := from; k < to; k++ {
			differs = differs || nought(f.has, k) != nought(f.sure, k)
		}
		had := 0 // how many bytes of the sector are what it had
		if differs {
			x := pick()
			had = []int{0, 256, x / 3 % 256}[x%3]
		}
		for k := from; k < to; k++ {
			if k-from < had {
				left = append(left, nought(f.has, k))
			} else {
				left = append(left, nought(f.sure, k))
			}
		}
	}
	return left
}

// The steps.
const (
	create = iota
	add
	write
	cut
	doSync
	rename
	remove
	syncDir
	kinds
)

// op is a step, and what it is handed.
type op struct {
	kind     int
	name, to string
	at       int
	b        []byte
}

func (o op) names() []string {
	switch o.kind {
	case syncDir:
		return nil
	case rename:
		return []string{o.name, o.to}
	}
	return []string{o.name}
}

func (o op) String() string {
	word := []string{"Create", "Append", "Write", "Cut", "Sync", "Rename", "Remove", "SyncDir"}[o.kind]
	return fmt.Sprintf("%s(%q, %q, %d, %d bytes)", word, o.name, o.to, o.at, len(o.b))
}

// on is the step, done on a disk.
func (o op) on(d *Disk) api.Errno {
	switch o.kind {
	case create:
		return d.Create(o.name)
	case add:
		return d.Append(o.name, o.b)
	case write:
		return d.Write(o.name, o.at, o.b)
	case cut:
		return d.Cut(o.name, o.at)
	case doSync:
		return d.Sync(o.name)
	case rename:
		return d.Rename(o.name, o.to)
	case remove:
		return d.Remove(o.name)
	}
	return d.SyncDir()
}

// all is one step of each kind, each of the files a and b.
func all() []op {
	var l []op
	for kind := range kinds {
		l = append(l, op{kind: kind, name: "a", to: "b", b: []byte{7}})
	}
	return l
}

// told is all that a disk with power says of itself.
func told(t *testing.T, d *Disk) string {
	t.Helper()
	var s strings.Builder
	for _, name := range d.Names() {
		b, e := d.Read(name)
		if e != api.OK {
			t.Fatalf("Read(%q): %v", name, e)
		}
		fmt.Fprintf(&s, "%q %x\n", name, b)
	}
	fmt.Fprintf(&s, "used %d, steps %d", d.Used(), d.Steps())
	return s.String()
}

// mustBe holds a disk against the model.
func mustBe(t *testing.T, what any, d *Disk, m *model) {
	t.Helper()
	if d.Used() != wordsUsed(m.now) || d.Steps() != m.steps {
		t.Fatalf("%v: %d sectors, %d steps, want %d, %d", what, d.Used(), d.Steps(), wordsUsed(m.now), m.steps)
	}
	var names []string
	for _, x := range m.now {
		names = append(names, x.name)
		b, e := d.Read(x.name)
		if m.gone {
			if e != api.ErrPower || len(b) != 0 {
				t.Fatalf("%v: Read(%q) without power: %x, %v", what, x.name, b, e)
			}
		} else if e != api.OK || !bytes.Equal(b, x.file.has) {
			t.Fatalf("%v: Read(%q): %x, %v, want %x", what, x.name, b, e, x.file.has)
		}
	}
	if m.gone {
		names = nil
	}
	slices.Sort(names)
	if got := d.Names(); !slices.Equal(got, names) {
		t.Fatalf("%v: names %q, want %q", what, got, names)
	}
}

// both is a disk, and the model of it.
type both struct {
	d *Disk
	m *model
}

func newBoth(t *testing.T, room int) both { return both{made(t, room), newModel(room)} }

// do does a step on both, and holds them against each other.
func (x both) do(t *testing.T, o op) api.Errno {
	t.Helper()
	got, want := o.on(x.d), x.m.do(o)
	if got != want {
		t.Fatalf("%v: %v, want %v", o, got, want)
	}
	mustBe(t, o, x.d, x.m)
	return got
}

// crash lets both crash, and holds them against each other.
func (x both) crash(t *testing.T, picks ...int) {
	t.Helper()
	if e := x.d.Crash(picks...); e != api.OK {
		t.Fatalf("Crash(%v): %v", picks, e)
	}
	x.m.crash(picks)
	mustBe(t, fmt.Sprint("Crash", picks), x.d, x.m)
}

// drawnOp is a step, mostly of one of few names, and with bytes around a sector's bounds.
func drawnOp(r *rand.Rand) op {
	names := []string{"a", "b", "c", "wal.1", "!", "~"}
	if r.Intn(30) == 0 {
		names = []string{"", "a b", "\x7f", strings.Repeat("x", 65)}
	}
	sizes := []int{0, 1, 2, 100, 255, 256, 257, 512, 600}
	b := make([]byte, sizes[r.Intn(len(sizes))])
	for k := range b {
		b[k] = byte(r.Intn(3)) // few values, so that what is sure and what is had are alike now and then
	}
	places := []int{-1, 0, 0, 1, 100, 255, 256, 257, 512, r.Intn(700)}
	return op{r.Intn(kinds), names[r.Intn(len(names))], names[r.Intn(len(names))], places[r.Intn(len(places))], b}
}

// drawnPicks is some picks, of any size.
func drawnPicks(r *rand.Rand) []int {
	l := make([]int, r.Intn(20))
	for k := range l {
		l[k] = []int{r.Int(), r.Intn(3), r.Intn(800), -1 - r.Intn(9), 1}[r.Intn(5)]
	}
	return l
}

func TestDrawn(t *testing.T) { // 9.1, 9.2: all calls, against the words
	for seed := range int64(300) {
		r := rand.New(rand.NewSource(seed))
		x := newBoth(t, 1+r.Intn(20))
		for range 300 {
			switch r.Intn(40) {
			case 0:
				x.crash(t, drawnPicks(r)...)
			case 1:
				n := r.Intn(12) - 1
				x.m.fuse = n
				mustOK(t, x.d.Fuse(n))
			case 2:
				n := 1 + r.Intn(20)
				x.m.room = n
				mustOK(t, x.d.Room(n))
			default:
				x.do(t, drawnOp(r))
			}
		}
		x.crash(t, drawnPicks(r)...)
	}
}

func FuzzSteps(f *testing.F) { // P1, 9.1, 9.2
	f.Add([]byte{0, 0, 0, 1, 0, 9, 4, 0, 0, 7, 0, 0, 1, 0, 3}, 1, 1, 0)
	f.Add([]byte{0, 0, 0, 0, 1, 0, 5, 9, 0, 9, 7, 7}, -1, 770, 5)
	f.Add([]byte{0, 0, 0, 1, 0, 200, 10, 2, 0, 1, 0, 200}, 3, 4, 5)
	f.Fuzz(func(t *testing.T, l []byte, p, q, s int) {
		x := newBoth(t, 4)
		for ; len(l) >= 3; l = l[3:] {
			name, to := string(rune('a'+l[1]%4)), string(rune('a'+l[1]/4%4))
			switch kind := int(l[0]) % (kinds + 3); kind {
			case kinds:
				x.crash(t, p, q, s, int(l[1]), int(l[2]))
			case kinds + 1:
				x.m.fuse = int(int8(l[2]))
				mustOK(t, x.d.Fuse(x.m.fuse))
			case kinds + 2:
				x.m.room = 1 + int(l[2])%8
				mustOK(t, x.d.Room(x.m.room))
			default:
				x.do(t, op{kind, name, to, int(l[2]) * 3, bytes.Repeat([]byte{l[1]}, int(l[2])*2)})
			}
		}
		x.crash(t, p, q, s)
	})
}
