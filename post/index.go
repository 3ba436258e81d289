package post

import (
	"cmp"
	"maps"
	"slices"

	"tidepole/api"
)

// Index is lists by their keys.
type Index struct {
	lists lists[uint64] // none, if no call made the index
}

// lists is rising lists by their keys. None of them is empty: a key goes with its last number.
type lists[N cmp.Ordered] map[string][]N

// New is an index without keys.
func New() *Index { return &Index{lists[uint64]{}} }

// Put puts n into the key's list.
func (x *Index) Put(key string, n uint64) api.Errno {
	if x.Void() {
		return api.ErrNil
	}
	x.lists.put(key, n)
	return api.OK
}

// Take takes n out of the key's list.
func (x *Index) Take(key string, n uint64) api.Errno {
	if x.Void() {
		return api.ErrNil
	}
	x.lists.take(key, n)
	return api.OK
}

// List is the key's list.
func (x *Index) List(key string) []uint64 {
	if x.Void() {
		return nil
	}
	return slices.Clone(x.lists[key])
}

// Keys is all keys, rising.
func (x *Index) Keys() []string {
	if x.Void() {
		return nil
	}
	return slices.Sorted(maps.Keys(x.lists))
}

// Size is how many numbers there are, in all lists.
func (x *Index) Size() int {
	if x.Void() {
		return 0
	}
	return x.lists.size()
}

// Void tells whether it is none that New made.
func (x *Index) Void() bool { return x == nil || x.lists == nil }

func (l lists[N]) put(key string, n N) {
	if at, isIn := slices.BinarySearch(l[key], n); !isIn {
		l[key] = slices.Insert(l[key], at, n)
	}
}

func (l lists[N]) take(key string, n N) {
	at, isIn := slices.BinarySearch(l[key], n)
	if !isIn {
		return
	}
	l[key] = slices.Delete(l[key], at, at+1)
	if len(l[key]) == 0 {
		delete(l, key)
	}
}

func (l lists[N]) size() int {
	n := 0
	for _, list := range l {
		n += len(list)
	}
	return n
}
