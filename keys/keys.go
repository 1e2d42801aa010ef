// Package keys goes over a map's keys in order: what is told must not hang on the order in which a map is gone through.
package keys

import (
	"cmp"
	"iter"
	"maps"
	"slices"
)

// Map is a map that is gone over by its keys in order.
type Map[K cmp.Ordered, V any] map[K]V

// Rising goes over the keys as they are when it is ranged over, each with what it has when it is reached: a key may be deleted once it was.
func (m Map[K, V]) Rising() iter.Seq2[K, V] {
	return func(yield func(K, V) bool) {
		for k := range Rising(m) {
			if !yield(k, m[k]) {
				return
			}
		}
	}
}

// Rising goes over the keys as they are when it is ranged over.
func Rising[K cmp.Ordered, V any](m map[K]V) iter.Seq[K] {
	return func(yield func(K) bool) {
		for _, k := range slices.Sorted(maps.Keys(m)) {
			if !yield(k) {
				return
			}
		}
	}
}
