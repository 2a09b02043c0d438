// Package sorted: maps in order. See doc/01-sorted.md.
package sorted

import (
	"cmp"
	"slices"
)

// Map: see the chapter. Its keys rise, and vals[i] is what keys[i] has; they are
// two lists, so that a key is looked up without walking over values.
type Map[K cmp.Ordered, V any] struct {
	keys []K
	vals []V
}

// New answers an empty map.
func New[K cmp.Ordered, V any]() *Map[K, V] { return &Map[K, V]{} }

// Put lays v under k and tells whether k is new.
func (m *Map[K, V]) Put(k K, v V) bool {
	i, there := slices.BinarySearch(m.keys, k)
	if there {
		m.vals[i] = v
		return false
	}
	m.keys = slices.Insert(m.keys, i, k)
	m.vals = slices.Insert(m.vals, i, v)
	return true
}

// Get answers what k has; false: it is not there.
func (m *Map[K, V]) Get(k K) (V, bool) {
	i, there := slices.BinarySearch(m.keys, k)
	if !there {
		var none V
		return none, false
	}
	return m.vals[i], true
}

// Drop takes k out and tells whether it was there.
func (m *Map[K, V]) Drop(k K) bool {
	i, there := slices.BinarySearch(m.keys, k)
	if !there {
		return false
	}
	// Delete zeroes the room that falls free, so nothing dropped is kept.
	m.keys = slices.Delete(m.keys, i, i+1)
	m.vals = slices.Delete(m.vals, i, i+1)
	return true
}

// Len tells how many keys there are.
func (m *Map[K, V]) Len() int { return len(m.keys) }

// Keys answers the keys, rising.
func (m *Map[K, V]) Keys() []K { return twin(m.keys) }

// At answers the i-th key, from 0 on, and what it has; false: there is none.
func (m *Map[K, V]) At(i int) (K, V, bool) {
	k, there := m.key(i)
	if !there {
		var none V
		return k, none, false
	}
	return k, m.vals[i], true
}

// Floor answers the greatest key that is not above k; false: there is none.
func (m *Map[K, V]) Floor(k K) (K, bool) {
	i, there := slices.BinarySearch(m.keys, k)
	if !there {
		i--
	}
	return m.key(i)
}

// Ceil answers the least key that is not below k; false: there is none.
func (m *Map[K, V]) Ceil(k K) (K, bool) {
	i, _ := slices.BinarySearch(m.keys, k)
	return m.key(i)
}

// Twin answers a map of the same keys and values that goes its own way.
func (m *Map[K, V]) Twin() *Map[K, V] {
	return &Map[K, V]{keys: twin(m.keys), vals: twin(m.vals)}
}

func (m *Map[K, V]) key(i int) (K, bool) {
	if i < 0 || i >= len(m.keys) {
		var none K
		return none, false
	}
	return m.keys[i], true
}

// twin answers a copy with no spare room, so that nothing hangs on a capacity.
func twin[T any](l []T) []T {
	out := make([]T, len(l))
	copy(out, l)
	return out
}
