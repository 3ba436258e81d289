package prog

import (
	"fmt"
	"math/big"
	"math/rand"
	"strings"

	"tidepole/api"
)

// of is a byte of those.
func of(l ...byte) api.Re {
	r := api.Re{Kind: 1}
	for _, b := range l {
		r.Set[b>>6] |= 1 << (b & 63)
	}
	return r
}

// every is any byte.
func every() api.Re {
	return api.Re{Kind: 1, Set: api.Set{1<<64 - 1, 1<<64 - 1, 1<<64 - 1, 1<<64 - 1}}
}

func all(l ...api.Re) api.Re { return api.Re{Kind: 2, L: l} }

func one(l ...api.Re) api.Re { return api.Re{Kind: 3, L: l} }

func rep(from, to int, r api.Re) api.Re { return api.Re{Kind: 4, L: []api.Re{r}, Min: from, Max: to} }

// told is all fields of r, as a text (a list without members is the same, nil or not).
func told(r api.Re) string {
	var l []string
	for _, x := range r.L {
		l = append(l, told(x))
	}
	return fmt.Sprintf("%d%x(%s)%d:%d", r.Kind, r.Set, strings.Join(l, " "), r.Min, r.Max)
}

// spot is a number that is known once it is laid.
type spot struct{ number int }

// draft is an instruction whose X and Y may not be known yet; nil: there is none.
type draft struct {
	op   int
	set  api.Set
	x, y *spot
}

// model is the chapter's words, with spots in place of numbers.
type model struct{ l []draft }

func (m *model) lay(s *spot) { s.number = len(m.l) }

func (m *model) add(d draft) { m.l = append(m.l, d) }

// split adds an Op 2 whose X is the next number.
func (m *model) split(y *spot) {
	x := &spot{}
	m.add(draft{op: 2, x: x, y: y})
	m.lay(x)
}

// chain adds so many codes one behind the other, each going on where the next one begins.
func (m *model) chain(l []func(next *spot), next *spot) {
	if len(l) == 0 {
		m.add(draft{op: 4, x: next})
		return
	}
	for _, put := range l[:len(l)-1] {
		begin := &spot{}
		put(begin)
		m.lay(begin)
	}
	l[len(l)-1](next)
}

func (m *model) code(r api.Re, next *spot) {
	switch r.Kind {
	case 1:
		m.add(draft{op: 1, set: r.Set, x: next})
	case 2:
		var l []func(*spot)
		for _, x := range r.L {
			l = append(l, func(s *spot) { m.code(x, s) })
		}
		m.chain(l, next)
	case 3:
		if len(r.L) == 0 {
			m.add(draft{op: 1, x: next})
		}
		for k, x := range r.L {
			left := &spot{}
			if k < len(r.L)-1 {
				m.split(left)
			}
			m.code(x, next)
			m.lay(left)
		}
	case 4:
		m.times(r, next)
	}
}

func (m *model) times(r api.Re, next *spot) {
	var l []func(*spot)
	for range r.Min {
		l = append(l, func(s *spot) { m.code(r.L[0], s) })
	}
	if r.Max == -1 {
		l = append(l, func(*spot) {
			again := &spot{}
			m.lay(again)
			m.split(next)
			m.code(r.L[0], again)
		})
	}
	for range r.Max - r.Min {
		l = append(l, func(s *spot) {
			m.split(next)
			m.code(r.L[0], s)
		})
	}
	m.chain(l, next)
}

// made is the program of r, by the words.
func made(r api.Re) []api.Inst {
	m, last := model{}, &spot{}
	m.code(r, last)
	m.lay(last)
	m.add(draft{op: 3})
	var out []api.Inst
	for _, d := range m.l {
		x := api.Inst{Op: d.op, Set: d.set}
		if d.x != nil {
			x.X = d.x.number
		}
		if d.y != nil {
			x.Y = d.y.number
		}
		out = append(out, x)
	}
	return out
}

// counted is how many instructions the code of r has, by the words, without a bound.
func counted(r api.Re) *big.Int {
	n := new(big.Int)
	switch r.Kind {
	case 1:
		return n.SetInt64(1)
	case 4:
		if r.Max == 0 {
			return n.SetInt64(1)
		}
		c := counted(r.L[0])
		n.Mul(c, big.NewInt(int64(r.Min)))
		more := int64(1)
		if r.Max != -1 {
			more = int64(r.Max - r.Min)
		}
		return n.Add(n, c.Mul(c.Add(c, big.NewInt(1)), big.NewInt(more)))
	}
	for _, x := range r.L {
		n.Add(n, counted(x))
	}
	if len(r.L) == 0 {
		return n.SetInt64(1)
	}
	if r.Kind == 3 {
		n.Add(n, big.NewInt(int64(len(r.L)-1)))
	}
	return n
}

// bounded is what Count must say of r.
func bounded(r api.Re) int {
	n := counted(r)
	if n.Cmp(big.NewInt(1048575)) > 0 {
		return 1048576
	}
	return int(n.Int64()) + 1
}

// mayRun is what Check must say of l, by the words.
func mayRun(l []api.Inst) bool {
	if len(l) == 0 || len(l) > 2048 {
		return false
	}
	is := func(n int) bool { return 0 <= n && n < len(l) }
	for _, x := range l {
		empty := x.Set == api.Set{}
		ok := false
		switch x.Op {
		case 1:
			ok = is(x.X) && x.Y == 0
		case 2:
			ok = is(x.X) && is(x.Y) && empty
		case 3:
			ok = x.X == 0 && x.Y == 0 && empty
		case 4:
			ok = is(x.X) && x.Y == 0 && empty
		}
		if !ok {
			return false
		}
	}
	return true
}

// lines is what Text must say of an l that may be.
func lines(l []api.Inst) string {
	s := ""
	for _, x := range l {
		switch x.Op {
		case 1:
			n := 0
			for b := range 256 {
				if x.Set[b/64]&(1<<(b%64)) != 0 {
					n++
				}
			}
			s += fmt.Sprintf("byte %d %d\n", n, x.X)
		case 2:
			s += fmt.Sprintf("split %d %d\n", x.X, x.Y)
		case 3:
			s += "end\n"
		case 4:
			s += fmt.Sprintf("jump %d\n", x.X)
		}
	}
	return s
}

// drawnSet is a set of no byte, of one, of some or of all.
func drawnSet(r *rand.Rand) api.Set {
	switch r.Intn(6) {
	case 0:
		return api.Set{}
	case 1:
		return every().Set
	case 2:
		return api.Set{r.Uint64(), r.Uint64(), r.Uint64(), r.Uint64()}
	}
	return of(byte(r.Intn(256))).Set
}

// drawnRe is a Re that may be; most is the greatest Min and Max.
func drawnRe(r *rand.Rand, deep, most int) api.Re {
	kind := 1 + r.Intn(4)
	if deep == 0 {
		kind = 1 + r.Intn(3)
	}
	x := api.Re{Kind: kind}
	switch kind {
	case 1:
		x.Set = drawnSet(r)
	case 4:
		x = rep(r.Intn(most+1), -1, drawnRe(r, deep-1, most))
		if r.Intn(3) > 0 {
			x.Max = x.Min + r.Intn(most+1-x.Min)
		}
	default:
		for range min(deep, r.Intn(4)) {
			x.L = append(x.L, drawnRe(r, deep-1, most))
		}
	}
	return x
}
