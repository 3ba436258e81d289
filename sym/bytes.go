package sym

import (
	"tidepole/api"
	"tidepole/vint"
)

// part is what a table's bytes tell of a text: how many bytes it has in common with the last one, and those behind them.
type part struct {
	same uint64
	rest []byte
}

// Bytes is the table's bytes.
func (t Table) Bytes() []byte {
	if t.isVoid() {
		return nil
	}
	out := vint.Put(nil, uint64(t.Len()))
	last := ""
	for _, s := range t.All() {
		out = append(out, partOf(last, s).bytes()...)
		last = s
	}
	return out
}

// Read is the table whose bytes stand at the place at, and the place behind them.
func Read(b []byte, at int) (Table, int, api.Errno) {
	n, end, e := vint.Read(b, at)
	if e != api.OK {
		return Table{}, 0, e
	}
	l, fits := list{}, n <= api.MaxItems
	// All parts are read, even if they are no table's, as the errors of their bytes are named ahead of ErrSym.
	for range n {
		var p part
		if p, end, e = readPart(b, end); e != api.OK {
			return Table{}, 0, e
		}
		if fits {
			l, fits = l.with(p)
		}
	}
	if !fits {
		return Table{}, 0, api.ErrSym
	}
	return Table{l}, end, api.OK
}

func partOf(last, s string) part {
	same := common(last, s)
	return part{uint64(same), []byte(s[same:])}
}

func (p part) bytes() []byte {
	b, _ := vint.PutBytes(vint.Put(nil, p.same), p.rest) // no text of a table is too long
	return b
}

// readPart is the part whose bytes stand at the place at, and the place behind them.
func readPart(b []byte, at int) (part, int, api.Errno) {
	same, end, e := vint.Read(b, at)
	if e != api.OK {
		return part{}, 0, e
	}
	rest, end, e := vint.ReadBytes(b, end)
	if e != api.OK {
		return part{}, 0, e
	}
	return part{same, rest}, end, api.OK
}

// with is the list and, behind it, the text that p tells; false, if no table's bytes tell it so.
func (l list) with(p part) (list, bool) {
	last := l.last()
	if p.same > uint64(len(last)) {
		return nil, false
	}
	s := last[:p.same] + string(p.rest)
	rises := len(l) == 0 || last < s
	if isTooLong(s) || !rises || common(last, s) != int(p.same) {
		return nil, false
	}
	return append(l, s), true
}
