package cache

// order: values in the order of their use, no two of them of one key. Each is found by its key, so that a full cache costs no more than an empty one.
type order[K comparable, V any] struct {
	links map[K]*link[V]
	ends  *link[V] // holds no value: it closes the ring, newer than the newest and older than the oldest
}

// link: a value between its neighbours.
type link[V any] struct {
	value        V
	older, newer *link[V]
}

func newOrder[K comparable, V any]() order[K, V] {
	ends := &link[V]{}
	ends.older, ends.newer = ends, ends
	return order[K, V]{links: make(map[K]*link[V]), ends: ends}
}

func (o *order[K, V]) count() int { return len(o.links) }

func (o *order[K, V]) find(key K) (value V, ok bool) {
	l, ok := o.links[key]
	if !ok {
		return value, false
	}
	return l.value, true
}

// use: the value stands last, and is the only one of its key.
func (o *order[K, V]) use(key K, value V) {
	o.forget(key)
	l := &link[V]{value: value, older: o.ends.older, newer: o.ends}
	l.older.newer, l.newer.older = l, l
	o.links[key] = l
}

func (o *order[K, V]) forget(key K) {
	l, ok := o.links[key]
	if !ok {
		return
	}
	l.older.newer, l.newer.older = l.newer, l.older
	delete(o.links, key)
}

// oldest: the value that was used longest ago; the zero value, if there is none.
func (o *order[K, V]) oldest() V { return o.ends.newer.value }

// all: from the one that was used longest ago on.
func (o *order[K, V]) all() []V {
	values := make([]V, 0, o.count())
	for l := o.ends.newer; l != o.ends; l = l.newer {
		values = append(values, l.value)
	}
	return values
}
