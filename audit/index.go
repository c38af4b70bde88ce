package audit

import (
	"cmp"
	"iter"
	"slices"
)

// index: texts with their ids, from 0 on, and the ids of each key.
type index[K comparable] struct {
	texts []string
	ids   map[K][]int64 // of each key that stands there one or more, rising
}

// again: an id whose key stands at a lower one too, and the lowest of these.
type again[K comparable] struct {
	key       K
	first, id int64
}

func newIndex[K comparable]() index[K] { return index[K]{ids: make(map[K][]int64)} }

// add: the text gets the next id.
func (x *index[K]) add(key K, text string) {
	x.ids[key] = append(x.ids[key], int64(len(x.texts)))
	x.texts = append(x.texts, text)
}

func (x *index[K]) at(id int64) string { return x.texts[id] }

// all: the texts in the order of their ids.
func (x *index[K]) all() iter.Seq[string] { return slices.Values(x.texts) }

// find: a list of its own.
func (x *index[K]) find(key K) []int64 { return slices.Clone(x.ids[key]) }

// repeats: in the order of their ids; a map is gone through in any order, but no two of them have one id.
func (x *index[K]) repeats() []again[K] {
	var found []again[K]
	for key, ids := range x.ids {
		for _, id := range ids[1:] {
			found = append(found, again[K]{key: key, first: ids[0], id: id})
		}
	}
	slices.SortFunc(found, func(a, b again[K]) int { return cmp.Compare(a.id, b.id) })
	return found
}
