package disk

import (
	"math"
	"math/rand"
	"slices"
	"testing"

	"tidepole/api"
)

// mustBeDark holds all calls of a disk without power against what they answer then.
func mustBeDark(t *testing.T, d *Disk, steps, used int) {
	t.Helper()
	for _, o := range all() {
		for _, name := range []string{"a", "none"} { // ErrPower is ahead of ErrNone, ErrSame, and wrong places
			for _, at := range []int{0, -1, 999} {
				o.name, o.at = name, at
				if e := o.on(d); e != api.ErrPower {
					t.Fatalf("%v: %v, want ErrPower", o, e)
				}
			}
		}
		if o.name = "a b"; o.kind != syncDir && o.on(d) != api.ErrArg {
			t.Fatalf("%v: %v, want ErrArg", o, o.on(d))
		}
	}
	if e := d.Append("a", make([]byte, 4194305)); e != api.ErrPower {
		t.Fatalf("Append of too much: %v, want ErrPower", e)
	}
	for name, want := range map[string]api.Errno{"a": api.ErrPower, "none": api.ErrPower, "": api.ErrArg} {
		if b, e := d.Read(name); len(b) != 0 || e != want {
			t.Fatalf("Read(%q): %x, %v, want %v", name, b, e, want)
		}
	}
	if len(d.Names()) != 0 || d.Steps() != steps || d.Used() != used {
		t.Fatalf("names %q, %d steps, %d sectors, want none, %d, %d", d.Names(), d.Steps(), d.Used(), steps, used)
	}
	if e := d.Room(0); e != api.ErrArg {
		t.Fatalf("Room(0): %v, want ErrArg", e)
	}
	mustOK(t, d.Room(64))
}

func TestFuse(t *testing.T) { // 9.2, 9.6: of 0, of 1, of some more
	for _, n := range []int{0, 1, 2, 3, 7, 100} {
		d := laid(t, counted(300))
		mustOK(t, d.Fuse(n))
		for k := range n {
			mustOK(t, d.Write("a", k, []byte{99}))
		}
		if b, e := d.Read("a"); len(b) != 300 || e != api.OK { // it goes ahead of the step, not behind the last one
			t.Errorf("a fuse of %d, Read behind all steps: %x, %v", n, b, e)
		}
		mustName(t, d, "a")
		if e := d.Write("a", 0, []byte{98}); e != api.ErrPower {
			t.Errorf("a fuse of %d, one step more: %v, want ErrPower", n, e)
		}
		mustBeDark(t, d, 4+n, 2)
		mustOK(t, d.Crash())
		mustHave(t, d, "a", counted(300))
		for range 200 { // there is no fuse
			mustOK(t, d.Append("a", nil))
		}
	}
}

func TestFuseOfEachStep(t *testing.T) { // 9.6: each of them is a step, and is refused
	for _, o := range []op{
		{kind: create, name: "b"}, {kind: add, name: "a", b: []byte{1}}, {kind: add, name: "a"}, {kind: write, name: "a", b: []byte{1}}, {kind: write, name: "a"},
		{kind: cut, name: "a", at: 5}, {kind: cut, name: "a", at: 300}, {kind: doSync, name: "a"}, {kind: rename, name: "a", to: "c"}, {kind: rename, name: "a", to: "a"},
		{kind: remove, name: "a"}, {kind: syncDir},
	} {
		d := laid(t, counted(300))
		mustOK(t, d.Fuse(0))
		if e := o.on(d); e != api.ErrPower {
			t.Errorf("%v: %v, want ErrPower", o, e)
		}
		mustBeDark(t, d, 4, 2)
		mustOK(t, d.Crash(1, 1, 1, 1))
		mustHave(t, d, "a", counted(300))
		mustName(t, d, "a")

		d = laid(t, counted(300))
		mustOK(t, d.Fuse(1), o.on(d))
		if e := d.SyncDir(); e != api.ErrPower {
			t.Errorf("behind %v: %v, want ErrPower", o, e)
		}
	}
}

func TestNoFuse(t *testing.T) { // 9.2: below 0, and where none was ever set
	d := laid(t, counted(3))
	for _, n := range []int{-1, -2, math.MinInt, math.MaxInt} {
		mustOK(t, d.Fuse(n))
		for range 300 {
			mustOK(t, d.Append("a", nil))
		}
	}
	mustOK(t, d.Fuse(0), d.Fuse(2), d.SyncDir(), d.Fuse(2), d.SyncDir(), d.SyncDir(), d.Fuse(-1), d.SyncDir()) // from now on, each time
	mustOK(t, d.Fuse(3), d.SyncDir(), d.Crash())
	for range 10 {
		mustOK(t, d.SyncDir())
	}
}

func TestFuseWithoutPower(t *testing.T) { // it does not come back but by a crash
	for _, n := range []int{-1, 0, 1, 100} {
		d := laid(t, counted(3))
		mustOK(t, d.Fuse(0))
		if e := d.SyncDir(); e != api.ErrPower {
			t.Fatalf("SyncDir: %v, want ErrPower", e)
		}
		mustOK(t, d.Fuse(n))
		mustBeDark(t, d, 4, 1)
		mustOK(t, d.Crash())
		for range 200 {
			mustOK(t, d.Append("a", nil))
		}
	}
}

func TestFuseOfWhatIsRefused(t *testing.T) { // 9.1, 9.6: it is no step
	d := laid(t, counted(300))
	mustOK(t, d.Create("b"), d.Room(3), d.Fuse(2))
	refused := func() {
		t.Helper()
		for _, c := range []struct {
			got, want api.Errno
		}{
			{d.Create("a b"), api.ErrArg}, {d.Create("a"), api.ErrSame}, {d.Append("none", nil), api.ErrNone}, {d.Write("a", 301, nil), api.ErrArg},
			{d.Cut("a", 301), api.ErrArg}, {d.Sync("none"), api.ErrNone}, {d.Remove("none"), api.ErrNone}, {d.Rename("none", "a"), api.ErrNone},
			{d.Append("a", make([]byte, 4194305)), api.ErrLong}, {d.Append("b", make([]byte, 999)), api.ErrFull}, {d.Rename("a", ""), api.ErrArg}, {d.Room(0), api.ErrArg},
		} {
			if c.got != c.want {
				t.Errorf("%v, want %v", c.got, c.want)
			}
		}
	}
	refused()
	mustOK(t, d.Sync("a"))
	refused()
	mustOK(t, d.Sync("a"))
	if e := d.Create(""); e != api.ErrArg { // a name that may not be is told ahead of the power, and takes none
		t.Errorf("%v, want ErrArg", e)
	}
	mustName(t, d, "a", "b")
	if e := d.Append("none", nil); e != api.ErrPower {
		t.Errorf("%v, want ErrPower", e)
	}
	mustBeDark(t, d, 7, 2)
}

func TestFuseDrawn(t *testing.T) { // 9.6: just so many
	for seed := range int64(300) {
		r := rand.New(rand.NewSource(seed))
		d := made(t, 8)
		for range r.Intn(30) {
			drawnOp(r).on(d)
		}
		n, elder, done := r.Intn(20), d.Steps(), 0
		mustOK(t, d.Fuse(n))
		for range 500 {
			switch drawnOp(r).on(d) {
			case api.OK:
				done++
			case api.ErrPower:
				if done != n {
					t.Fatalf("a fuse of %d: ErrPower behind %d steps", n, done)
				}
			}
		}
		if done != n || d.Steps() != elder+n {
			t.Fatalf("a fuse of %d: %d steps, and Steps says %d more", n, done, d.Steps()-elder)
		}
	}
}

func TestPowerGoesAnywhere(t *testing.T) { // 9.3, 9.6: steps ahead of the fuse are as without it
	steps := []op{
		{kind: create, name: "a"}, {kind: add, name: "a", b: counted(300)}, {kind: doSync, name: "a"}, {kind: syncDir}, {kind: write, name: "a", at: 200, b: make([]byte, 100)},
		{kind: rename, name: "a", to: "b"}, {kind: syncDir}, {kind: doSync, name: "b"}, {kind: cut, name: "b", at: 1}, {kind: create, name: "a"}, {kind: remove, name: "b"}, {kind: syncDir},
	}
	for n := range len(steps) + 1 {
		for _, picks := range [][]int{nil, {1, 1, 1}, {299, 1, 1}, {0, 302, 302}} {
			x := newBoth(t, 8)
			x.m.fuse = n
			mustOK(t, x.d.Fuse(n))
			for k, o := range steps {
				if e := x.do(t, o); (e == api.OK) != (k < n) {
					t.Fatalf("a fuse of %d, the step %d: %v", n, k, e)
				}
			}
			x.crash(t, slices.Clone(picks)...)
			for _, o := range []op{{kind: create, name: "c"}, {kind: add, name: "c", b: counted(9)}} {
				mustOK(t, x.do(t, o))
			}
		}
	}
}
