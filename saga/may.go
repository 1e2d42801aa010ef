package saga

import (
	"slices"

	"entrepot/api"
	"entrepot/items"
	"entrepot/plan"
)

func May(s api.Saga) bool {
	visit := plan.Visit(s.First, s.Regions)
	switch {
	case s.Order < 1, s.Order > api.MaxOrder,
		len(visit) == 0,
		len(s.Want) == 0,
		s.Asked < 1, s.Asked > s.Regions,
		len(s.Got) != s.Regions,
		!within(s.Want, s.Got):
		return false
	}
	return mayState(s, visit[:s.Asked])
}

// within is whether all lists may be, and got has together no more than want of any good.
func within(want []api.Item, got [][]api.Item) bool {
	left := want
	for _, l := range got {
		rest, e := items.Minus(left, l)
		if e != api.OK {
			return false
		}
		left = rest
	}
	return true
}

// mayState is told which regions were asked, the one that was asked last at the end.
func mayState(s api.Saga, asked []int) bool {
	all := Holders(s)
	whole := len(missing(s)) == 0
	idle := len(all) == 0 && len(s.Pending) == 0
	switch s.State {
	case api.SagaAsking:
		return !whole && mayAsk(s, asked)
	case api.SagaHeld, api.SagaPicked, api.SagaShipped:
		return whole && !s.Cancelled && len(s.Pending) == 0
	case api.SagaPicking, api.SagaShipping:
		return whole && !s.Cancelled && len(s.Pending) > 0 && mayAnswer(s)
	case api.SagaUndoing:
		return len(s.Pending) > 0 && slices.Equal(s.Pending, all)
	case api.SagaWaiting:
		return idle && s.Waits && !s.Cancelled
	case api.SagaRefused:
		return idle && !s.Waits && !s.Cancelled
	case api.SagaGone:
		return idle && s.Cancelled
	}
	return false
}

func mayAsk(s api.Saga, asked []int) bool {
	ahead, last := asked[:len(asked)-1], asked[len(asked)-1:]
	for region := range holders(s) {
		if !slices.Contains(ahead, region) {
			return false
		}
	}
	return slices.Equal(s.Pending, last)
}

// mayAnswer is whether those that are pending are holders alone, and rise: just the holders that are among them.
func mayAnswer(s api.Saga) bool {
	var l []int
	for region := range holders(s) {
		if slices.Contains(s.Pending, region) {
			l = append(l, region)
		}
	}
	return slices.Equal(s.Pending, l)
}
