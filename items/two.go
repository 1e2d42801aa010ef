package items

import (
	"slices"

	"entrepot/api"
)

func Plus(a, b []api.Item) ([]api.Item, api.Errno) {
	if !mayBoth(a, b) {
		return nil, api.ErrItems
	}
	return Norm(slices.Concat(a, b))
}

func Minus(a, b []api.Item) ([]api.Item, api.Errno) {
	switch {
	case !mayBoth(a, b):
		return nil, api.ErrItems
	case !Covers(a, b):
		return nil, api.ErrLess
	}
	return Rest(a, b), api.OK
}

func Meet(a, b []api.Item) []api.Item {
	return against(a, b, func(n, other int) int { return min(n, other) })
}

func Rest(a, b []api.Item) []api.Item {
	return against(a, b, func(n, other int) int { return max(0, n-other) })
}

func Covers(a, b []api.Item) bool {
	return mayBoth(a, b) && len(Rest(b, a)) == 0
}

func mayBoth(a, b []api.Item) bool {
	return May(a) && May(b)
}

// against has of each good of a what left makes of how many there are in a, and in the other list.
func against(a, b []api.Item, left func(n, other int) int) []api.Item {
	if !mayBoth(a, b) {
		return nil
	}
	sums := map[string]int{}
	for good, n := range over(a) {
		sums[good] = left(n, Of(b, good))
	}
	return listed(sums)
}
