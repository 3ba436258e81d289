package disk

import (
	"bytes"
	"math"
	"math/rand"
	"slices"
	"strings"
	"testing"

	"tidepole/api"
)

// made is a disk without files.
func made(t *testing.T, room int) *Disk {
	t.Helper()
	d, e := Make(room)
	if d == nil || e != api.OK {
		t.Fatalf("Make(%d): %v, %v", room, d, e)
	}
	return d
}

// mustOK ends the test, if a call is refused.
func mustOK(t *testing.T, errors ...api.Errno) {
	t.Helper()
	for k, e := range errors {
		if e != api.OK {
			t.Fatalf("the call %d: %v", k, e)
		}
	}
}

// mustRefuse holds a refused call against its error, and the disk against what it was.
func mustRefuse(t *testing.T, what any, d *Disk, want api.Errno, call func() api.Errno) {
	t.Helper()
	elder := told(t, d)
	if e := call(); e != want {
		t.Errorf("%v: %v, want %v", what, e, want)
	}
	if now := told(t, d); now != elder {
		t.Errorf("%v, refused, changed\n%s\nto\n%s", what, elder, now)
	}
}

// mustHave holds a file's bytes against others.
func mustHave(t *testing.T, d *Disk, name string, want []byte) {
	t.Helper()
	if b, e := d.Read(name); e != api.OK || !bytes.Equal(b, want) {
		t.Errorf("Read(%q): %x, %v, want %x", name, b, e, want)
	}
}

// mustName holds all names against others.
func mustName(t *testing.T, d *Disk, want ...string) {
	t.Helper()
	if got := d.Names(); !slices.Equal(got, want) {
		t.Errorf("names %q, want %q", got, want)
	}
}

// counted is n bytes, no two of which that are near each other are alike, and none of which is 0.
func counted(n int) []byte {
	b := make([]byte, n)
	for k := range b {
		b[k] = byte(k%251 + 1)
	}
	return b
}

// laid is a disk with the file a of these bytes, all of it sure.
func laid(t *testing.T, b []byte) *Disk {
	t.Helper()
	d := made(t, 64)
	mustOK(t, d.Create("a"), d.Append("a", b), d.Sync("a"), d.SyncDir())
	return d
}

func TestMake(t *testing.T) { // 9.1
	for _, room := range []int{1, 2, 256, 65535, 65536} {
		d := made(t, room)
		if d.Used() != 0 || d.Steps() != 0 || len(d.Names()) != 0 {
			t.Errorf("Make(%d): %d sectors, %d steps, names %q", room, d.Used(), d.Steps(), d.Names())
		}
	}
	for _, room := range []int{0, -1, 65537, math.MinInt, math.MaxInt} {
		if d, e := Make(room); d != nil || e != api.ErrArg {
			t.Errorf("Make(%d): %v, %v, want ErrArg", room, d, e)
		}
	}
}

func TestMakeTheGreatestRoom(t *testing.T) { // 9.1: 65536 sectors, in four files of the greatest size, and none behind them
	d, b := made(t, 65536), make([]byte, 4194304)
	for k := range 4 {
		name := string(rune('a' + k))
		mustOK(t, d.Create(name), d.Append(name, b))
	}
	mustOK(t, d.Create("e"))
	if e := d.Append("e", []byte{1}); e != api.ErrFull || d.Used() != 65536 {
		t.Errorf("one sector more: %v, %d sectors", e, d.Used())
	}
	mustOK(t, d.Cut("a", 4194304-256), d.Append("e", b[:256]))
	if d.Used() != 65536 {
		t.Errorf("%d sectors", d.Used())
	}
}

// wrongNames are names that may not be.
func wrongNames() []string {
	l := []string{"", strings.Repeat("n", 65), strings.Repeat("n", 1000), "a b", " a", "a ", "a\x7f", "\x20", "\x7f", "a\n", "\x00", "ä", "\xff"}
	for k := range 256 {
		if k < 33 || k > 126 {
			l = append(l, string([]byte{byte(k)}), string([]byte{'x', byte(k), 'y'}))
		}
	}
	return l
}

// rightNames are names that may be.
func rightNames() []string {
	l := []string{strings.Repeat("n", 64), strings.Repeat("!", 64), strings.Repeat("~", 64), "!~", "wal.1", "manifest.new"}
	for k := 33; k <= 126; k++ {
		l = append(l, string([]byte{byte(k)}))
	}
	return l
}

func TestRightNames(t *testing.T) { // 9.1: 1 to MaxName bytes from 33 to 126
	d := made(t, 65536)
	for _, name := range rightNames() {
		mustOK(t, d.Create(name), d.Append(name, []byte(name)), d.Write(name, 0, []byte(name)), d.Sync(name))
		mustHave(t, d, name, []byte(name))
		mustOK(t, d.Rename(name, "x0"), d.Rename("x0", name), d.Cut(name, 0))
	}
	names := rightNames()
	slices.Sort(names)
	mustName(t, d, names...)
	for _, name := range names {
		mustOK(t, d.Remove(name))
	}
	mustName(t, d)
}

func TestWrongNames(t *testing.T) { // 9.1, 9.2: ErrArg, ahead of all else
	d := laid(t, counted(300))
	for _, name := range wrongNames() {
		for _, o := range all() {
			if o.kind == syncDir {
				continue
			}
			o.name = name
			o.at = 999 // wrong as well
			mustRefuse(t, o, d, api.ErrArg, func() api.Errno { return o.on(d) })
		}
		mustRefuse(t, name, d, api.ErrArg, func() api.Errno { return d.Rename("a", name) })
		mustRefuse(t, name, d, api.ErrArg, func() api.Errno { return d.Rename("none", name) })
		if b, e := d.Read(name); len(b) != 0 || e != api.ErrArg {
			t.Errorf("Read(%q): %x, %v", name, b, e)
		}
	}
}

func TestCreate(t *testing.T) { // 9.1
	d := made(t, 1)
	mustOK(t, d.Create("b"), d.Create("a"))
	mustName(t, d, "a", "b")
	mustHave(t, d, "a", nil)
	mustOK(t, d.Append("a", []byte{7}))
	mustRefuse(t, "one that is there", d, api.ErrSame, func() api.Errno { return d.Create("a") })
	mustOK(t, d.Remove("a"), d.Create("a"))
	mustHave(t, d, "a", nil)
}

func TestNoSuchFile(t *testing.T) { // 9.1, 9.2: ErrNone, ahead of a wrong place and a greater file
	d := laid(t, counted(3))
	long := make([]byte, 4194305)
	for _, o := range all() {
		if o.kind == syncDir || o.kind == create {
			continue
		}
		for _, at := range []int{0, -1, 1, math.MaxInt} {
			o.name, o.at, o.b = "none", at, long
			mustRefuse(t, o, d, api.ErrNone, func() api.Errno { return o.on(d) })
		}
	}
	mustRefuse(t, "a file that is not there, to its own name", d, api.ErrNone, func() api.Errno { return d.Rename("none", "none") })
	mustRefuse(t, "a file that is not there, to another's name", d, api.ErrNone, func() api.Errno { return d.Rename("none", "a") })
	if b, e := d.Read("none"); len(b) != 0 || e != api.ErrNone {
		t.Errorf("Read: %x, %v", b, e)
	}
	mustOK(t, d.Remove("a"))
	if b, e := d.Read("a"); len(b) != 0 || e != api.ErrNone {
		t.Errorf("Read of what was removed: %x, %v", b, e)
	}
}

func TestSectors(t *testing.T) { // 9.2: as many as a file needs
	for _, c := range []struct{ size, sectors int }{{0, 0}, {1, 1}, {255, 1}, {256, 1}, {257, 2}, {511, 2}, {512, 2}, {513, 3}, {4194304, 16384}} {
		d, b := made(t, 65536), counted(c.size)
		mustOK(t, d.Create("a"), d.Append("a", b), d.Create("b"), d.Create("c"), d.Append("c", []byte{1}))
		mustHave(t, d, "a", b)
		if d.Used() != c.sectors+1 {
			t.Errorf("%d bytes, and one: %d sectors, want %d", c.size, d.Used(), c.sectors+1)
		}
		mustOK(t, d.Rename("a", "b"))
		if d.Used() != c.sectors+1 {
			t.Errorf("%d bytes, and one, renamed: %d sectors, want %d", c.size, d.Used(), c.sectors+1)
		}
		mustOK(t, d.Remove("b"))
		if d.Used() != 1 {
			t.Errorf("%d bytes removed: %d sectors, want 1", c.size, d.Used())
		}
	}
}

func TestAppend(t *testing.T) { // 9.1
	d, all := made(t, 64), counted(2000)
	mustOK(t, d.Create("a"))
	at := 0
	for _, n := range []int{0, 1, 254, 1, 1, 255, 257, 0, 256, 300} {
		mustOK(t, d.Append("a", all[at:at+n]))
		at += n
		mustHave(t, d, "a", all[:at])
	}
	mustOK(t, d.Append("a", nil))
	mustHave(t, d, "a", all[:at])
}

func TestWrite(t *testing.T) { // 9.1: within a file, over its end, at its end, and of nothing
	for _, size := range []int{0, 1, 10, 255, 256, 257, 600} {
		for _, at := range []int{0, 1, 9, 10, 254, 255, 256, 257, 599, 600} {
			for _, n := range []int{0, 1, 2, 256, 300} {
				if at > size {
					continue
				}
				d, elder, b := laid(t, counted(size)), counted(size), bytes.Repeat([]byte{99}, n)
				mustOK(t, d.Write("a", at, b))
				want := append(slices.Clone(elder[:at]), b...)
				if len(want) < size {
					want = append(want, elder[len(want):]...)
				}
				mustHave(t, d, "a", want)
				if used := (len(want) + 255) / 256; d.Used() != used || d.Steps() != 5 {
					t.Errorf("%d bytes at %d of %d: %d sectors, %d steps", n, at, size, d.Used(), d.Steps())
				}
			}
		}
	}
}

func TestWrongPlaces(t *testing.T) { // 9.1: of Write and of Cut
	for _, size := range []int{0, 1, 255, 256, 300} {
		d := laid(t, counted(size))
		for _, at := range []int{-1, math.MinInt, size + 1, size + 256, math.MaxInt} {
			for _, b := range [][]byte{nil, {1}, make([]byte, 100)} {
				mustRefuse(t, "Write", d, api.ErrArg, func() api.Errno { return d.Write("a", at, b) })
			}
			mustRefuse(t, "Cut", d, api.ErrArg, func() api.Errno { return d.Cut("a", at) })
		}
	}
	d := laid(t, counted(300)) // ahead of ErrLong, and of ErrFull
	mustOK(t, d.Room(1))
	mustRefuse(t, "Write, too long", d, api.ErrArg, func() api.Errno { return d.Write("a", 301, make([]byte, 4194305)) })
	mustRefuse(t, "Write, too full", d, api.ErrArg, func() api.Errno { return d.Write("a", -1, make([]byte, 4000)) })
}

func TestCut(t *testing.T) { // 9.1: to 0, to its length, and between
	for _, size := range []int{0, 1, 255, 256, 257, 512, 600} {
		for _, n := range []int{0, 1, 255, 256, 257, 512, 600} {
			if n > size {
				continue
			}
			d := laid(t, counted(size))
			mustOK(t, d.Cut("a", n))
			mustHave(t, d, "a", counted(size)[:n])
			if used := (n + 255) / 256; d.Used() != used || d.Steps() != 5 {
				t.Errorf("%d of %d bytes: %d sectors, %d steps", n, size, d.Used(), d.Steps())
			}
			mustOK(t, d.Append("a", []byte{99}))
			mustHave(t, d, "a", append(counted(size)[:n], 99))
		}
	}
}

func TestTheGreatestFile(t *testing.T) { // 9.1: 4194304 bytes, and one more
	d, b := made(t, 65536), counted(4194305)
	mustOK(t, d.Create("a"))
	mustRefuse(t, "Append to nothing", d, api.ErrLong, func() api.Errno { return d.Append("a", b) })
	mustRefuse(t, "Write to nothing", d, api.ErrLong, func() api.Errno { return d.Write("a", 0, b) })
	mustOK(t, d.Append("a", b[:4194303]), d.Append("a", b[4194303:4194304]))
	mustHave(t, d, "a", b[:4194304])
	for _, o := range []op{{kind: add, b: b[:1]}, {kind: write, at: 4194304, b: b[:1]}, {kind: write, at: 4194303, b: b[:2]}, {kind: write, at: 0, b: b}} {
		o.name = "a"
		if e := o.on(d); e != api.ErrLong {
			t.Errorf("%v: %v, want ErrLong", o, e)
		}
	}
	mustOK(t, d.Append("a", nil), d.Write("a", 4194304, nil), d.Write("a", 4194302, []byte{98, 99}), d.Write("a", 0, b[:4194304]))
	mustHave(t, d, "a", b[:4194304])
	mustOK(t, d.Room(1))
	if e := d.Append("a", b[:1]); e != api.ErrLong {
		t.Errorf("too long on a full disk: %v, want ErrLong", e)
	}
}

func TestFull(t *testing.T) { // 9.1: just full, and one sector more
	for _, room := range []int{1, 2, 3, 10} {
		d := made(t, room)
		mustOK(t, d.Create("a"), d.Create("b"))
		mustRefuse(t, "all, and one byte", d, api.ErrFull, func() api.Errno { return d.Append("a", make([]byte, 256*room+1)) })
		mustRefuse(t, "as much, written", d, api.ErrFull, func() api.Errno { return d.Write("a", 0, make([]byte, 256*room+1)) })
		mustOK(t, d.Append("a", counted(256*room-1)), d.Append("a", []byte{7}))
		mustRefuse(t, "one byte more", d, api.ErrFull, func() api.Errno { return d.Append("a", []byte{1}) })
		mustRefuse(t, "one byte over the end", d, api.ErrFull, func() api.Errno { return d.Write("a", 256*room-1, []byte{1, 2}) })
		mustRefuse(t, "one byte of another file", d, api.ErrFull, func() api.Errno { return d.Append("b", []byte{1}) })
		mustOK(t, d.Create("c"), d.Append("b", nil), d.Append("a", nil), d.Write("a", 256*room, nil), d.Write("a", 0, counted(256*room)))
		mustHave(t, d, "a", counted(256*room))
		mustOK(t, d.Rename("b", "e"), d.Sync("a"), d.SyncDir(), d.Cut("a", 256*(room-1)), d.Append("e", make([]byte, 256)))
		mustRefuse(t, "full again", d, api.ErrFull, func() api.Errno { return d.Append("a", []byte{1}) })
		mustOK(t, d.Remove("e"), d.Append("a", []byte{1}))
	}
}

func TestRoom(t *testing.T) { // 9.2
	d := laid(t, counted(600))
	for _, n := range []int{0, -1, 65537, math.MinInt, math.MaxInt} {
		mustRefuse(t, n, d, api.ErrArg, func() api.Errno { return d.Room(n) })
	}
	mustOK(t, d.Append("a", make([]byte, 256*61)), d.Cut("a", 600)) // the room of 64 is as it was
	mustOK(t, d.Room(4), d.Append("a", make([]byte, 400)))
	mustRefuse(t, "a room of 4", d, api.ErrFull, func() api.Errno { return d.Append("a", make([]byte, 100)) })
	mustOK(t, d.Room(65536), d.Append("a", make([]byte, 100)), d.Room(5))
	if d.Used() != 5 {
		t.Errorf("%d sectors, want 5", d.Used())
	}
	mustRefuse(t, "just full", d, api.ErrFull, func() api.Errno { return d.Append("a", make([]byte, 256)) })
}

func TestRoomBelowWhatIsUsed(t *testing.T) { // 9.2: nothing is put then, all else is done
	d := laid(t, counted(600))
	mustOK(t, d.Room(1))
	mustHave(t, d, "a", counted(600))
	if d.Used() != 3 {
		t.Errorf("%d sectors, want 3", d.Used())
	}
	for _, o := range []op{{kind: add, b: make([]byte, 256)}, {kind: add, b: []byte{1}}, {kind: write, at: 600, b: make([]byte, 256)}, {kind: write, at: 0, b: []byte{1}}} {
		o.name = "a"
		mustRefuse(t, o, d, api.ErrFull, func() api.Errno { return o.on(d) })
	}
	mustOK(t, d.Create("b"), d.Rename("a", "c"), d.Sync("c"), d.SyncDir(), d.Cut("c", 512), d.Cut("c", 256))
	mustOK(t, d.Write("c", 0, []byte{9}), d.Remove("c"), d.Append("b", make([]byte, 256)))
	d.Crash()
	if d.Used() != 3 { // the room says nothing of what a crash leaves
		t.Errorf("%d sectors behind a crash, want 3", d.Used())
	}
	mustOK(t, d.Remove("c"))
}

func TestRename(t *testing.T) { // 9.1
	d := made(t, 64)
	mustOK(t, d.Create("a"), d.Append("a", counted(300)), d.Create("b"), d.Append("b", counted(600)), d.Create("c"))
	mustOK(t, d.Rename("a", "x"))
	mustName(t, d, "b", "c", "x")
	mustHave(t, d, "x", counted(300))
	mustOK(t, d.Rename("x", "b")) // a file of that name goes
	mustName(t, d, "b", "c")
	mustHave(t, d, "b", counted(300))
	if d.Used() != 2 || d.Steps() != 7 {
		t.Errorf("%d sectors, %d steps, want 2, 7", d.Used(), d.Steps())
	}
	mustOK(t, d.Rename("b", "b")) // nothing, but a step
	mustName(t, d, "b", "c")
	mustHave(t, d, "b", counted(300))
	if d.Used() != 2 || d.Steps() != 8 {
		t.Errorf("to its own name: %d sectors, %d steps, want 2, 8", d.Used(), d.Steps())
	}
	mustOK(t, d.Append("b", []byte{7}), d.Create("a"))
	mustHave(t, d, "b", append(counted(300), 7))
	mustHave(t, d, "a", nil)
}

func TestNamesRise(t *testing.T) { // 9.2
	r := rand.New(rand.NewSource(92))
	d := made(t, 1)
	var want []string
	for range 500 {
		b := make([]byte, 1+r.Intn(4))
		for k := range b {
			b[k] = byte(33 + r.Intn(94))
		}
		if name := string(b); !slices.Contains(want, name) {
			want = append(want, name)
			mustOK(t, d.Create(name))
		}
	}
	slices.Sort(want)
	for range 3 {
		mustName(t, d, want...)
	}
}

func TestSteps(t *testing.T) { // 9.2: what is done, whatever it does; nothing else
	d := made(t, 8)
	steps := []op{
		{kind: create, name: "a"}, {kind: add, name: "a"}, {kind: add, name: "a", b: []byte{1}}, {kind: write, name: "a"}, {kind: write, name: "a", at: 1},
		{kind: cut, name: "a", at: 1}, {kind: doSync, name: "a"}, {kind: doSync, name: "a"}, {kind: rename, name: "a", to: "a"}, {kind: rename, name: "a", to: "b"},
		{kind: syncDir}, {kind: syncDir}, {kind: cut, name: "b", at: 0}, {kind: remove, name: "b"},
	}
	for k, o := range steps {
		mustOK(t, o.on(d))
		d.Names()
		d.Used()
		d.Read("a")
		mustOK(t, d.Room(7), d.Fuse(100))
		if d.Steps() != k+1 {
			t.Fatalf("%v: %d steps, want %d", o, d.Steps(), k+1)
		}
	}
	mustOK(t, d.Crash(), d.Crash(1, 2))
	if d.Steps() != len(steps) {
		t.Errorf("behind a crash: %d steps, want %d", d.Steps(), len(steps))
	}
}

// noDisks are disks that no call made.
func noDisks() []*Disk { return []*Disk{nil, {}, new(Disk)} }

func TestNoDisk(t *testing.T) { // rule 2: ErrNil, ahead of all else
	for _, d := range noDisks() {
		for _, name := range []string{"a", "", "a b", strings.Repeat("n", 65)} {
			for _, o := range all() {
				o.name, o.at = name, -1
				if e := o.on(d); e != api.ErrNil {
					t.Errorf("%v: %v, want ErrNil", o, e)
				}
			}
			if b, e := d.Read(name); len(b) != 0 || e != api.ErrNil {
				t.Errorf("Read(%q): %x, %v, want ErrNil", name, b, e)
			}
		}
		for _, n := range []int{-1, 0, 1, 65537} {
			if e := d.Fuse(n); e != api.ErrNil {
				t.Errorf("Fuse(%d): %v, want ErrNil", n, e)
			}
			if e := d.Room(n); e != api.ErrNil {
				t.Errorf("Room(%d): %v, want ErrNil", n, e)
			}
			if e := d.Crash(n); e != api.ErrNil {
				t.Errorf("Crash(%d): %v, want ErrNil", n, e)
			}
		}
		if e := d.Crash(); e != api.ErrNil || len(d.Names()) != 0 || d.Used() != 0 || d.Steps() != 0 {
			t.Errorf("Crash: %v; names %q, %d sectors, %d steps", e, d.Names(), d.Used(), d.Steps())
		}
	}
}

// spoil writes over all bytes, and over the room behind them.
func spoil(b []byte) {
	b = b[:cap(b)]
	for k := range b {
		b[k] ^= 255
	}
}

func TestMemoryOfBytes(t *testing.T) { // rule 4: what is put is not kept, what is read is the caller's
	d := made(t, 64)
	long := counted(1000)
	b, w := long[:600], []byte{91, 92, 93}
	mustOK(t, d.Create("a"), d.Append("a", b), d.Write("a", 599, w), d.Append("a", b[:10]))
	if !bytes.Equal(long, counted(1000)) || !bytes.Equal(w, []byte{91, 92, 93}) {
		t.Error("bytes that were handed in were changed")
	}
	spoil(long)
	spoil(w)
	want := slices.Concat(counted(599), []byte{91, 92, 93}, counted(10))
	mustHave(t, d, "a", want)
	mustOK(t, d.Sync("a"), d.SyncDir())
	x, _ := d.Read("a")
	y, _ := d.Read("a")
	spoil(x)
	mustHave(t, d, "a", want)
	mustOK(t, d.Append("a", []byte{7}), d.Write("a", 0, []byte{8}))
	if !bytes.Equal(y, want) {
		t.Error("what was read changed with the file")
	}
	mustOK(t, d.Crash())
	mustHave(t, d, "a", want) // what is sure has memory of its own
	z, _ := d.Read("a")
	spoil(z)
	mustOK(t, d.Write("a", 0, []byte{8}), d.Append("a", []byte{7}), d.Crash())
	mustHave(t, d, "a", want) // behind a crash, too
}

func TestMemoryOfNamesAndPicks(t *testing.T) { // rule 4
	d := laid(t, counted(600))
	mustOK(t, d.Create("b"))
	l := d.Names()
	l[0], l[1] = "x", "y"
	mustName(t, d, "a", "b")
	name := []byte("c")
	mustOK(t, d.Create(string(name)))
	name[0] = 'd'
	mustName(t, d, "a", "b", "c")
	mustOK(t, d.Append("a", counted(600)), d.Write("a", 0, []byte{99}))
	picks := []int{-5, 700, 1, 1, 1, 5, 5}
	mustOK(t, d.Crash(picks[:3]...))
	if !slices.Equal(picks, []int{-5, 700, 1, 1, 1, 5, 5}) {
		t.Errorf("picks that were handed in were changed: %v", picks)
	}
}

func TestDisksAreApart(t *testing.T) { // what is kept is a disk's own
	a, b := laid(t, counted(3)), laid(t, counted(5))
	mustOK(t, a.Fuse(0), a.Room(1))
	if e := a.SyncDir(); e != api.ErrPower {
		t.Errorf("SyncDir: %v, want ErrPower", e)
	}
	mustOK(t, b.Append("a", make([]byte, 999)), a.Crash())
	mustHave(t, a, "a", counted(3))
	mustHave(t, b, "a", append(counted(5), make([]byte, 999)...))
}
