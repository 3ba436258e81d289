package inv

import (
	"cmp"
	"maps"
	"slices"

	"tidepole/api"
)

// set is members in no order.
type set[M cmp.Ordered] map[M]struct{}

func (s set[M]) put(m M) { s[m] = struct{}{} }

func (s set[M]) take(m M) { delete(s, m) }

// lists is the series that have a label, by its name, and then by its value. None of the sets is empty, nor is a name without values: they go with their last series.
type lists map[string]map[string]set[uint64]

// put puts the series id into the list of y, and tells whether its value is new.
func (l lists) put(y api.Label, id uint64) bool {
	values := l[y.Name]
	if values == nil {
		values = map[string]set[uint64]{}
		l[y.Name] = values
	}
	isNew := values[y.Value] == nil
	if isNew {
		values[y.Value] = set[uint64]{}
	}
	values[y.Value].put(id)
	return isNew
}

// take takes the series id, which is there, out of the list of y, and tells whether its value is gone.
func (l lists) take(y api.Label, id uint64) bool {
	values := l[y.Name]
	values[y.Value].take(id)
	if len(values[y.Value]) > 0 {
		return false
	}
	delete(values, y.Value)
	if len(values) == 0 {
		delete(l, y.Name)
	}
	return true
}

// card is how many series have the name.
func (l lists) card(name string) int {
	n := 0
	for _, series := range l[name] { // no series has two values of one name
		n += len(series)
	}
	return n
}

// rising is the keys of m in order.
func rising[K cmp.Ordered, V any](m map[K]V) []K { return slices.Sorted(maps.Keys(m)) }
