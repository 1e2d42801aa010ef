package audit

import (
	"maps"

	"entrepot/api"
)

// amounts are how many there are of each good.
type amounts map[string]int

// together is what some lists, which may be, have in all.
func together(lists ...[]api.Item) amounts {
	sums := amounts{}
	for _, l := range lists {
		for _, i := range l {
			sums[i.Good] += i.N
		}
	}
	return sums
}

func same(a, b amounts) bool {
	return maps.Equal(a, b)
}

// covers is whether a has of each good at least what b has.
func covers(a, b []api.Item) bool {
	has := together(a)
	for good, n := range together(b) {
		if has[good] < n {
			return false
		}
	}
	return true
}
