package plan

import (
	"cmp"
	"slices"

	"entrepot/api"
)

// Fewest counts through all choices: a number's bits say which offers are in.
func Fewest(want []api.Item, offers [][]api.Item) []int {
	if len(want) == 0 || !Enough(want, offers) {
		return nil
	}
	all := 1 << len(offers)
	best := places(all - 1)
	for choice := range all {
		l := places(choice)
		// Whether it is enough takes longer to say.
		if fewer(l, best) && Enough(want, chosen(offers, l)) {
			best = l
		}
	}
	return best
}

func places(choice int) []int {
	var l []int
	for place := range api.MaxRegions {
		if choice>>place&1 == 1 {
			l = append(l, place)
		}
	}
	return l
}

func chosen(offers [][]api.Item, places []int) [][]api.Item {
	var l [][]api.Item
	for _, place := range places {
		l = append(l, offers[place])
	}
	return l
}

// fewer is whether a is to be had rather than b: of those that are as few, the one whose places come first.
func fewer(a, b []int) bool {
	return cmp.Or(cmp.Compare(len(a), len(b)), slices.Compare(a, b)) < 0
}
