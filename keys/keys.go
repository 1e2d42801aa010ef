// Package keys goes over a map's keys in order: what is told must not hang on the order in which a map is gone through.
package keys

import (
	"cmp"
	"iter"
	"maps"
	"slices"
)

// Rising goes over the keys as they are when it is ranged over.
func Rising[K cmp.Ordered, V any](m map[K]V) iter.Seq[K] {
	return func(yield func(K) bool) {
		for _, k := range slices.Sorted(maps.Keys(m)) {
			if !yield(k) {
				return
			}
		}
	}
}
