package disk

import (
	"bytes"
	"fmt"
	"math"
	"math/rand"
	"slices"
	"testing"

	"tidepole/api"
)

func TestExample(t *testing.T) { // the chapter's
	for _, c := range []struct {
		picks []int
		want  []byte
	}{{nil, []byte{7}}, {[]int{1, 1}, []byte{7, 8}}, {[]int{1}, []byte{7, 0}}, {[]int{0, 1}, []byte{7}}, {[]int{2, 1}, []byte{7}}, {[]int{3, 1}, []byte{7, 8}}} {
		d := laid(t, []byte{7})
		mustOK(t, d.Append("a", []byte{8}), d.Crash(c.picks...))
		mustHave(t, d, "a", c.want)
		mustOK(t, d.Crash())
		mustHave(t, d, "a", c.want)
	}
}

func TestCrashOfASector(t *testing.T) { // 9.2: its three ways, with each number of bytes
	elder, now := counted(256), bytes.Repeat([]byte{255}, 256)
	for pick := range 3 * 600 {
		d := laid(t, elder)
		mustOK(t, d.Write("a", 0, now), d.Crash(pick))
		n := 0
		switch pick % 3 {
		case 1:
			n = 256
		case 2:
			n = pick / 3 % 256
		}
		mustHave(t, d, "a", slices.Concat(now[:n], elder[n:]))
		mustOK(t, d.Crash(1, 1, 1))
		mustHave(t, d, "a", slices.Concat(now[:n], elder[n:]))
	}
	d := laid(t, elder)
	mustOK(t, d.Write("a", 0, now), d.Crash(math.MaxInt)) // 1 modulo 3
	mustHave(t, d, "a", now)
	d = laid(t, elder)
	mustOK(t, d.Write("a", 0, now), d.Crash(math.MaxInt-2)) // 2 modulo 3, 254 bytes
	mustHave(t, d, "a", slices.Concat(now[:(math.MaxInt-2)/3%256], elder[(math.MaxInt-2)/3%256:]))
}

func TestCrashOfAShortSector(t *testing.T) { // 9.2: no byte behind its end
	for _, size := range []int{1, 5, 255, 257, 261} {
		for n := range 256 {
			d, now := laid(t, counted(size)), bytes.Repeat([]byte{255}, size)
			mustOK(t, d.Write("a", 0, now), d.Crash(1, 2+3*n))
			if size <= 256 {
				mustHave(t, d, "a", now)
				continue
			}
			at := min(size, 256+n)
			mustHave(t, d, "a", slices.Concat(now[:at], counted(size)[at:]))
		}
	}
}

func TestCrashAsksOnlyWhereItDiffers(t *testing.T) { // 9.2: a pick a sector that is not as it is sure, and one a file that is longer
	elder := counted(1280) // five sectors
	d := laid(t, elder)
	now := slices.Clone(elder)
	for _, k := range []int{256 + 255, 768} { // the second and the fourth
		now[k] = 255
		mustOK(t, d.Write("a", k, now[k:k+1]))
	}
	mustOK(t, d.Write("a", 512, elder[512:600])) // the third one is as it was
	mustOK(t, d.Crash(0, 1, 1, 1))
	want := slices.Clone(elder)
	want[768] = 255
	mustHave(t, d, "a", want)

	for _, same := range []bool{true, false} { // a file that has changed and changed back asks for none
		d = laid(t, []byte{1, 2, 3})
		mustOK(t, d.Create("b"), d.Append("b", []byte{5}), d.Sync("b"), d.SyncDir(), d.Write("a", 1, []byte{9}), d.Write("b", 0, []byte{6}))
		if same {
			mustOK(t, d.Write("a", 1, []byte{2}))
		}
		mustOK(t, d.Crash(1))
		mustHave(t, d, "a", []byte{1, map[bool]byte{true: 2, false: 9}[same], 3})
		mustHave(t, d, "b", []byte{map[bool]byte{true: 6, false: 5}[same]})
	}
}

func TestCrashOfALongerFile(t *testing.T) { // 9.2: so many bytes more, with noughts where nothing is sure
	for _, sure := range []int{0, 1, 3, 255, 256, 257} {
		for _, more := range []int{1, 2, 253, 256, 300} {
			for _, k := range []int{0, 1, more / 2, more - 1, more} {
				all := counted(sure + more)
				size := sure + k
				first := k + (more+1)*5 // modulo the bytes more, and 1
				d := laid(t, all[:sure])
				mustOK(t, d.Append("a", all[sure:]), d.Crash(first))
				mustHave(t, d, "a", append(slices.Clone(all[:sure]), make([]byte, k)...))

				d = laid(t, all[:sure])
				mustOK(t, d.Append("a", all[sure:]), d.Crash(first, 1, 1, 1, 1, 1))
				mustHave(t, d, "a", all[:size])
				if used := (size + 255) / 256; d.Used() != used {
					t.Errorf("%d sectors, want %d", d.Used(), used)
				}
			}
		}
	}
	d := laid(t, []byte{1, 2}) // torn, where what is sure ends within
	mustOK(t, d.Append("a", []byte{3, 4, 5}), d.Crash(3, 2+3*4))
	mustHave(t, d, "a", []byte{1, 2, 3, 4, 0})
}

func TestCrashOfTheBytesThatAreLeft(t *testing.T) { // 9.2: a sector that differs only behind the file's end asks for no pick
	d := laid(t, []byte{1, 2})
	mustOK(t, d.Create("b"), d.Append("b", []byte{5}), d.Sync("b"), d.SyncDir(), d.Append("a", []byte{3}), d.Write("b", 0, []byte{6}), d.Crash(0, 1))
	mustHave(t, d, "a", []byte{1, 2})
	mustHave(t, d, "b", []byte{6})
	d = laid(t, []byte{1, 2}) // nor does one that has noughts where nothing is sure
	mustOK(t, d.Create("b"), d.Append("b", []byte{5}), d.Sync("b"), d.SyncDir(), d.Append("a", []byte{0, 0}), d.Write("b", 0, []byte{6}), d.Crash(2, 1))
	mustHave(t, d, "a", []byte{1, 2, 0, 0})
	mustHave(t, d, "b", []byte{6})
}

func TestCrashOfAShorterFile(t *testing.T) { // 9.2: as many bytes as are sure, with noughts where it had none
	elder := counted(600)
	for _, c := range []struct {
		cut   int
		picks []int
		want  []byte
	}{
		{300, nil, elder},
		{300, []int{0, 0}, elder},
		{300, []int{1, 1}, append(slices.Clone(elder[:300]), make([]byte, 300)...)},
		{300, []int{1, 0}, slices.Concat(elder[:300], make([]byte, 212), elder[512:])},
		{300, []int{0, 1}, slices.Concat(elder[:512], make([]byte, 88))},
		{300, []int{2 + 3*50, 2 + 3*3}, slices.Concat(elder[:300], make([]byte, 6), elder[306:512], make([]byte, 3), elder[515:])},
		{0, []int{1, 1, 1}, make([]byte, 600)},
		{0, []int{0, 1}, slices.Concat(elder[:256], make([]byte, 256), elder[512:])},
		{599, []int{1}, append(slices.Clone(elder[:599]), 0)},
		{600, []int{1, 1, 1}, elder},
	} {
		d := laid(t, elder)
		mustOK(t, d.Cut("a", c.cut), d.Crash(c.picks...))
		mustHave(t, d, "a", c.want)
		if d.Used() != 3 {
			t.Errorf("cut to %d: %d sectors, want 3", c.cut, d.Used())
		}
	}
	d := laid(t, elder) // what is cut and synced is gone
	mustOK(t, d.Cut("a", 300), d.Sync("a"), d.Append("a", []byte{0, 0}), d.Cut("a", 300), d.Crash(1, 1, 1))
	mustHave(t, d, "a", elder[:300])
}

func TestCrashWithFewPicks(t *testing.T) { // 9.2: those that are missing, or below 0, are 0
	now := bytes.Repeat([]byte{255}, 600)
	for _, picks := range [][]int{nil, {}, {0}, {0, 0, 0}, {-1}, {-1, -2, -3}, {math.MinInt, -4, -5}, {-2, -1, math.MinInt}} {
		d := laid(t, counted(600))
		mustOK(t, d.Write("a", 0, now), d.Crash(picks...))
		mustHave(t, d, "a", counted(600))
	}
	d := laid(t, counted(600)) // one below 0 is asked for all the same
	mustOK(t, d.Write("a", 0, now), d.Crash(-1, 1))
	mustHave(t, d, "a", slices.Concat(counted(256), now[:256], counted(600)[512:]))
	d = laid(t, counted(600))
	mustOK(t, d.Write("a", 0, now), d.Crash(1))
	mustHave(t, d, "a", slices.Concat(now[:256], counted(600)[256:]))
	d = laid(t, counted(600))
	mustOK(t, d.Append("a", []byte{9}), d.Crash(-1, 1)) // nor more bytes
	mustHave(t, d, "a", counted(600))
	d = laid(t, counted(600))
	mustOK(t, d.Write("a", 0, now), d.Crash(1, 1, 1, 1, 1, 2, 3)) // those that are too many are not asked for
	mustHave(t, d, "a", now)
	mustOK(t, d.Crash())
	mustHave(t, d, "a", now)
}

func TestCrashByNames(t *testing.T) { // 9.2: files take their picks in the order of their names
	names := []string{"~", "b", "!", "aa", "a", "B"}
	d := made(t, 64)
	for _, name := range names {
		mustOK(t, d.Create(name), d.Append(name, []byte{1}), d.Sync(name))
	}
	mustOK(t, d.SyncDir())
	for _, name := range names {
		mustOK(t, d.Append(name, []byte{2, 3}))
	}
	mustOK(t, d.Crash(0, 1, 0, 1, 1, 2, 1, 2, 2+3*2, 5, 2+3*5))
	for name, want := range map[string][]byte{"!": {1}, "B": {1, 0}, "a": {1, 2}, "aa": {1, 2, 3}, "b": {1, 2, 0}, "~": {1, 2, 3}} {
		mustHave(t, d, name, want)
	}
	slices.Sort(names)
	mustName(t, d, names...)
}

func TestCrashOfNames(t *testing.T) { // 9.2: the directory is the sure one
	d := made(t, 64)
	mustOK(t, d.Create("a"), d.Append("a", []byte{1}), d.Sync("a"), d.Crash(1, 1, 1)) // synced, but not named
	mustName(t, d)
	if d.Used() != 0 {
		t.Errorf("%d sectors of nothing", d.Used())
	}
	mustOK(t, d.Create("a"), d.SyncDir(), d.Append("a", []byte{1, 2}), d.Crash()) // named, but not synced
	mustName(t, d, "a")
	mustHave(t, d, "a", nil)
	mustOK(t, d.Append("a", []byte{1, 2}), d.Crash(2, 1))
	mustHave(t, d, "a", []byte{1, 2})
	mustOK(t, d.Create("b"), d.Crash())
	mustName(t, d, "a")
}

func TestCrashOfWhatWasRenamed(t *testing.T) { // 9.2: a file is the same one by another name
	d := laid(t, []byte{1, 2})
	mustOK(t, d.Rename("a", "b"), d.Crash())
	mustName(t, d, "a")
	mustHave(t, d, "a", []byte{1, 2})

	mustOK(t, d.Rename("a", "b"), d.Append("b", []byte{3}), d.Sync("b"), d.Crash()) // its bytes are sure, its name is not
	mustName(t, d, "a")
	mustHave(t, d, "a", []byte{1, 2, 3})

	mustOK(t, d.Rename("a", "b"), d.Append("b", []byte{4}), d.Crash(1, 1)) // what it had is what it had by its other name
	mustHave(t, d, "a", []byte{1, 2, 3, 4})

	mustOK(t, d.Rename("a", "b"), d.Create("a"), d.Append("a", []byte{9}), d.Sync("a"), d.Crash(1, 1)) // another file of its name is not it
	mustName(t, d, "a")
	mustHave(t, d, "a", []byte{1, 2, 3, 4})

	mustOK(t, d.Rename("a", "b"), d.SyncDir(), d.Crash())
	mustName(t, d, "b")
	mustHave(t, d, "b", []byte{1, 2, 3, 4})
	mustOK(t, d.Rename("b", "b"), d.Crash(1))
	mustName(t, d, "b")
}

func TestCrashOfWhatWasRenamedOver(t *testing.T) { // 9.2: as a manifest is
	for _, c := range []struct {
		sync, dir bool
		picks     []int
		a         []byte
	}{
		{true, false, nil, []byte{1}},
		{true, false, []int{1, 1, 1}, []byte{1}},
		{true, true, nil, []byte{2, 3}},
		{true, true, []int{1, 1, 1}, []byte{2, 3}},
		{false, true, nil, nil},
		{false, true, []int{1, 1, 1}, []byte{2}},
		{false, true, []int{2, 1, 1}, []byte{2, 3}},
	} {
		d := laid(t, []byte{1})
		mustOK(t, d.Create("a.new"), d.Append("a.new", []byte{2, 3}))
		if c.sync {
			mustOK(t, d.Sync("a.new"))
		}
		mustOK(t, d.Rename("a.new", "a"))
		if c.dir {
			mustOK(t, d.SyncDir())
		}
		mustOK(t, d.Crash(c.picks...))
		mustName(t, d, "a")
		mustHave(t, d, "a", c.a)
	}
	d := laid(t, []byte{1}) // both are named: both are there again
	mustOK(t, d.Create("b"), d.Append("b", []byte{2}), d.Sync("b"), d.SyncDir(), d.Rename("b", "a"), d.Crash())
	mustName(t, d, "a", "b")
	mustHave(t, d, "a", []byte{1})
	mustHave(t, d, "b", []byte{2})
	if d.Used() != 2 {
		t.Errorf("%d sectors, want 2", d.Used())
	}
}

func TestCrashOfWhatWasRemoved(t *testing.T) { // 9.2
	d := laid(t, []byte{1, 2})
	mustOK(t, d.Remove("a"), d.Crash())
	mustHave(t, d, "a", []byte{1, 2})
	mustOK(t, d.Append("a", []byte{3}), d.Remove("a"), d.Crash(1, 1)) // it had what it had
	mustHave(t, d, "a", []byte{1, 2, 3})
	mustOK(t, d.Remove("a"), d.Create("a"), d.Append("a", []byte{9}), d.Sync("a"), d.Crash(1, 1)) // another file of its name is not it
	mustHave(t, d, "a", []byte{1, 2, 3})
	mustOK(t, d.Remove("a"), d.Create("a"), d.Append("a", []byte{9}), d.Sync("a"), d.SyncDir(), d.Crash(1, 1))
	mustHave(t, d, "a", []byte{9})
	mustOK(t, d.Remove("a"), d.SyncDir(), d.Crash(1, 1))
	mustName(t, d)
	if b, e := d.Read("a"); len(b) != 0 || e != api.ErrNone {
		t.Errorf("Read of what was removed: %x, %v", b, e)
	}
}

func TestCrashGoesOn(t *testing.T) { // behind a crash all is as on any disk, and all of it is sure
	d := laid(t, counted(300))
	mustOK(t, d.Append("a", counted(300)), d.Room(4), d.Fuse(0))
	d.SyncDir()
	mustOK(t, d.Crash(300, 1, 1, 1))
	mustHave(t, d, "a", append(counted(300), counted(300)...))
	if e := d.Append("a", make([]byte, 500)); e != api.ErrFull { // the room is as it was
		t.Errorf("%v, want ErrFull", e)
	}
	mustOK(t, d.Append("a", make([]byte, 424)), d.Cut("a", 1), d.Crash())
	mustHave(t, d, "a", append(counted(300), counted(300)...))
	mustOK(t, d.Create("b"), d.Crash())
	mustName(t, d, "a")
}

// steps does drawn steps on both.
func (x both) steps(t *testing.T, r *rand.Rand, n int) {
	t.Helper()
	for range n {
		x.do(t, drawnOp(r))
	}
}

func TestSureDrawn(t *testing.T) { // 9.3: what was synced, with its name, and not changed since
	for seed := range int64(500) {
		r := rand.New(rand.NewSource(seed))
		x := newBoth(t, 40)
		x.steps(t, r, r.Intn(60))
		d := x.d
		d.Create("kept")
		b := counted(r.Intn(900))
		mustOK(t, d.Room(65536), d.Append("kept", b))
		if r.Intn(2) == 0 {
			mustOK(t, d.Sync("kept"), d.SyncDir())
		} else {
			mustOK(t, d.SyncDir(), d.Sync("kept"))
		}
		for range r.Intn(60) { // steps of all other files
			drawnOp(r).on(d)
		}
		if r.Intn(2) == 0 {
			mustOK(t, d.Fuse(r.Intn(5)))
			for range 20 {
				drawnOp(r).on(d)
			}
		}
		mustOK(t, d.Crash(drawnPicks(r)...))
		mustHave(t, d, "kept", b)
	}
}

func TestOneOrTheOtherDrawn(t *testing.T) { // 9.4, 9.5
	for seed := range int64(500) {
		r := rand.New(rand.NewSource(seed))
		x := newBoth(t, 40)
		x.steps(t, r, 100)
		before := map[string]thing{}
		for _, f := range x.m.sure {
			before[f.name] = *f.file
		}
		mustOK(t, x.d.Crash(drawnPicks(r)...))
		names := x.d.Names()
		if len(names) != len(before) {
			t.Fatalf("names %q behind a crash, %d were sure", names, len(before))
		}
		for _, name := range names {
			elder, known := before[name]
			b, e := x.d.Read(name)
			if !known || e != api.OK || len(b) < len(elder.sure) || len(b) > max(len(elder.sure), len(elder.has)) {
				t.Fatalf("%q behind a crash: %d bytes, %v; %d were sure, %d were had", name, len(b), e, len(elder.sure), len(elder.has))
			}
			for k := range b {
				if b[k] != nought(elder.sure, k) && b[k] != nought(elder.has, k) {
					t.Fatalf("%q at %d behind a crash: %d, sure was %d, had %d", name, k, b[k], nought(elder.sure, k), nought(elder.has, k))
				}
			}
		}
		mustStay(t, x.d, r)
	}
}

// mustStay lets a disk that has crashed crash again, and again, with any picks.
func mustStay(t *testing.T, d *Disk, r *rand.Rand) { // 9.5
	t.Helper()
	elder := told(t, d)
	for _, picks := range [][]int{nil, {1, 1, 1, 1, 1, 1}, {2 + 3*7, 5, 8, 302}, drawnPicks(r), drawnPicks(r)} {
		mustOK(t, d.Crash(picks...))
		if now := told(t, d); now != elder {
			t.Fatalf("%s\nbehind a crash, and behind another one, of %v:\n%s", elder, picks, now)
		}
	}
}

func TestCrashOfTheGreatestFile(t *testing.T) { // 9.4: all of its sectors
	const size = 4194304
	d, elder, now := made(t, 65536), counted(size), bytes.Repeat([]byte{255}, size)
	picks, want := make([]int, size/256), make([]byte, 0, size)
	for k := range picks {
		picks[k] = k
		n := []int{0, 256, k / 3 % 256}[k%3]
		want = append(append(want, now[k*256:k*256+n]...), elder[k*256+n:k*256+256]...)
	}
	mustOK(t, d.Create("a"), d.Append("a", elder), d.Sync("a"), d.SyncDir(), d.Write("a", 0, now), d.Crash(picks...))
	if b, e := d.Read("a"); e != api.OK || !bytes.Equal(b, want) {
		t.Error(fmt.Sprint("the greatest file is not what the picks say: ", e))
	}
}
