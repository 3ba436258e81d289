package disk

import (
	"bytes"
	"slices"
)

const (
	sector  = 256     // bytes
	maxFile = 4194304 // bytes
)

// What a crash may leave of a sector, by the pick modulo 3; of 0 it is what is sure.
const (
	ways = 3
	had  = 1
	torn = 2
)

// file is bytes, and those that are sure; they share no memory, as the former are written to.
type file struct{ bytes, sure []byte }

func (f *file) sectors() int { return sectors(len(f.bytes)) }

// has says whether n is a place in the file, or the one behind it.
func (f *file) has(n int) bool { return n >= 0 && n <= len(f.bytes) }

// crash leaves of a file what is sure, and of all else what the picks say.
func (f *file) crash(rest *pile) {
	size := len(f.sure)
	if more := len(f.bytes) - size; more > 0 {
		size += rest.next() % (more + 1)
	}
	now, out := filled(f.bytes, size), filled(f.sure, size)
	for at := 0; at < size; at += sector {
		end := min(at+sector, size)
		mix(out[at:end], now[at:end], rest)
	}
	f.bytes, f.sure = out, slices.Clone(out)
}

// mix puts into a sector of what is sure as much of what it had as a pick says; where both are alike no pick is asked for.
func mix(sure, now []byte, rest *pile) {
	if bytes.Equal(sure, now) {
		return
	}
	pick := rest.next()
	switch pick % ways {
	case had:
		copy(sure, now)
	case torn:
		n := pick / ways % sector
		copy(sure, now[:min(n, len(now))])
	}
}

// filled is the first size bytes of b, with noughts where it has none.
func filled(b []byte, size int) []byte {
	out := make([]byte, size)
	copy(out, b)
	return out
}

func sectors(size int) int { return (size + sector - 1) / sector }
