package sim

import (
	"iter"
	"math/bits"

	"tidepole/api"
)

const wordBits = 64

// set is numbers from 0 on, below MaxProg. It lies in an array, so that a set that is assigned is a copy.
type set[N ~int] struct {
	words [api.MaxProg / wordBits]uint64
}

// add tells whether n is new in it.
func (s *set[N]) add(n N) bool {
	word, bit := &s.words[n/wordBits], uint64(1)<<(n%wordBits)
	isNew := *word&bit == 0
	*word |= bit
	return isNew
}

func (s *set[N]) isEmpty() bool { return *s == set[N]{} }

// all gives its numbers, rising.
func (s *set[N]) all() iter.Seq[N] {
	return func(yield func(N) bool) {
		for k, word := range s.words {
			for ; word != 0; word &= word - 1 {
				if !yield(N(k*wordBits + bits.TrailingZeros64(word))) {
					return
				}
			}
		}
	}
}
