package bins

import (
	"cmp"
	"slices"

	"entrepot/api"
	"entrepot/count"
	"entrepot/items"
)

// bin has more than is told of it: what lies in it, which is never changed in place.
type bin struct {
	api.Bin
	in []api.Item
}

func may(b api.Bin) bool {
	return b.Number >= 1 && b.Number <= api.MaxBin && b.Zone >= 0 && b.Zone <= api.MaxZone && b.Room > 0 && count.May(b.Room)
}

func (b bin) left() int {
	return b.Room - items.Total(b.in)
}

func (b bin) has(good string) int {
	return items.Of(b.in, good)
}

func (b bin) takes(good string) bool {
	return b.has(good) > 0 || len(b.in) < api.MaxItems
}

// with is the bin with so many of a good in it, whatever there were ahead. Who asks for more than there were has seen that it takes them.
func (b bin) with(good string, n int) bin {
	others := items.Rest(b.in, []api.Item{{Good: good, N: api.MaxCount}})
	b.in, _ = items.Norm(append(others, api.Item{Good: good, N: n}))
	return b
}

// rising puts bins in order by a number that each has; those of the same number stay as they are.
func rising(l []bin, by func(bin) int) []bin {
	slices.SortStableFunc(l, func(a, b bin) int { return cmp.Compare(by(a), by(b)) })
	return l
}
