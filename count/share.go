package count

import (
	"cmp"
	"math/bits"
	"slices"

	"entrepot/api"
)

const maxWeights = 64

func Share(n int, weights []int) ([]int, api.Errno) {
	if !May(n) || len(weights) > maxWeights || !mayAll(weights...) {
		return nil, api.ErrArg
	}
	// Of so many counts the sum has room in an int, though it may be no count.
	whole := 0
	for _, weight := range weights {
		whole += weight
	}
	if whole == 0 {
		return nil, api.ErrArg
	}
	parts, rests, left := make([]int, len(weights)), make([]uint64, len(weights)), n
	for i, weight := range weights {
		parts[i], rests[i] = portion(n, weight, whole)
		left -= parts[i]
	}
	// All rests together are left wholes, and each is less than one: there are more rests than are left.
	for _, i := range greatestFirst(rests)[:left] {
		parts[i]++
	}
	return parts, api.OK
}

// portion divides a product that has no room in an int. No weight is above the whole, so the quotient is n at most.
func portion(n, weight, whole int) (int, uint64) {
	high, low := bits.Mul64(uint64(n), uint64(weight))
	part, rest := bits.Div64(high, low, uint64(whole))
	return int(part), rest
}

// greatestFirst answers the places of rests; those of equal ones rise.
func greatestFirst(rests []uint64) []int {
	places := make([]int, len(rests))
	for i := range places {
		places[i] = i
	}
	slices.SortStableFunc(places, func(i, j int) int { return cmp.Compare(rests[j], rests[i]) })
	return places
}
