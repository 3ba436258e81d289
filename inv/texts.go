package inv

import (
	"iter"
	"slices"

	"tidepole/gram"
	"tidepole/post"
)

// texts is the values of a name, each once, with their numbers by the grams that they have. These numbers are an index's own, and have nothing to do with those of series.
type texts struct {
	values  []string       // by their numbers; empty, which no value is, where one is gone
	numbers map[string]int // of those that are there
	grams   *post.Index    // their numbers, and those of some that are gone
}

func newTexts() *texts { return &texts{nil, map[string]int{}, post.New()} }

// put puts s, which is not there, to the texts.
func (t *texts) put(s string) {
	n := len(t.values)
	t.values, t.numbers[s] = append(t.values, s), n
	for _, g := range gram.Grams(s) {
		t.grams.Put(g, uint64(n))
	}
}

// take takes s, which is there, away. Its number stays in the lists of its grams, as each of these would be moved up for that one number, till more are gone than are there.
func (t *texts) take(s string) {
	t.values[t.numbers[s]] = ""
	delete(t.numbers, s)
	if len(t.values) > 2*len(t.numbers) {
		*t = *t.anew()
	}
}

// anew is the same texts with nothing of those that are gone.
func (t *texts) anew() *texts {
	out := newTexts()
	for _, s := range t.there() {
		out.put(s)
	}
	return out
}

// there gives the numbers of the texts that are there, rising, and these.
func (t *texts) there() iter.Seq2[uint64, string] {
	return func(yield func(uint64, string) bool) {
		for n, s := range t.values {
			if s != "" && !yield(uint64(n), s) {
				return
			}
		}
	}
}

// fitting is the texts that fit q, which may be, rising.
func (t *texts) fitting(q gram.Query) []string {
	var all []uint64
	for n := range t.there() {
		all = append(all, n)
	}
	found, _ := gram.Eval(q, t.grams, all) // all rises, and there is an index
	var out []string
	for _, n := range found {
		out = append(out, t.values[n])
	}
	slices.Sort(out)
	return out
}
