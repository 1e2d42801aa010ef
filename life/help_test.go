package life_test

import (
	"math"
	"slices"
	"strings"

	"entrepot/api"
	"entrepot/lists"
	"entrepot/saga"
)

// named are the states' names as the chapter has them, each at its number.
func named() []string {
	return []string{"", "asking", "held", "waiting", "undoing", "refused", "gone", "picking", "picked", "shipping", "shipped"}
}

// states makes of `held gone` the numbers of these states.
func states(s string) []int {
	var l []int
	for _, name := range strings.Fields(s) {
		state := slices.Index(named(), name)
		if state < 1 {
			panic(name)
		}
		l = append(l, state)
	}
	return l
}

// all are the numbers of all states.
func all() []int {
	return states(strings.Join(named(), " "))
}

// nones are numbers that no state has.
func nones() []int {
	return []int{0, -1, 11, 12, 64, 100, 256 + api.SagaAsking, 256 + api.SagaHeld, 1<<32 + api.SagaHeld, -api.SagaHeld, math.MinInt, math.MaxInt}
}

// ends are the states behind which nothing comes.
func ends() []int {
	return states("refused gone shipped")
}

// byRegions are all that regions may tell a saga.
func byRegions(s api.Saga) []api.Event {
	var l []api.Event
	for region, has := range s.Got {
		for _, kind := range []int{api.EventFreed, api.EventPicked, api.EventShipped} {
			l = append(l, api.Event{Kind: kind, Region: region, Items: has})
		}
		for _, share := range []string{"", "a 1", "a 2", "b 1", "a 1, b 1", "a 2, b 1"} {
			l = append(l, api.Event{Kind: api.EventTook, Region: region, Items: lists.Of(share)})
		}
	}
	return l
}

// byOthers are those that clients, and news, make.
func byOthers() []api.Event {
	return []api.Event{{Kind: api.EventCancel}, {Kind: api.EventRetry}, {Kind: api.EventPick}, {Kind: api.EventShip}}
}

// next are the sagas that events make of one.
func next(s api.Saga, events []api.Event) []api.Saga {
	var l []api.Saga
	for _, e := range events {
		if n, _, err := saga.Next(s, e); err == api.OK {
			l = append(l, n)
		}
	}
	return l
}

// begun are sagas that begin, over one to three regions.
func begun() []api.Saga {
	var l []api.Saga
	for regions := 1; regions <= 3; regions++ {
		for first := range regions {
			for _, waits := range []bool{false, true} {
				s, _, _ := saga.Begin(7, first, regions, lists.Of("a 2, b 1"), waits)
				l = append(l, s)
			}
		}
	}
	return l
}

// small are all sagas of two regions and few goods that may be, whether events lead to them or not.
func small() []api.Saga {
	var l []api.Saga
	shares := []string{"", "a 1", "a 2", "b 1", "a 1, b 1", "a 2, b 1"}
	flags := []bool{false, true}
	for _, one := range shares {
		for _, two := range shares {
			for _, state := range all() {
				for _, pending := range [][]int{nil, {0}, {1}, {0, 1}} {
					for asked := 1; asked <= 2; asked++ {
						for _, waits := range flags {
							for _, cancelled := range flags {
								s := api.Saga{Order: 7, Regions: 2, Want: lists.Of("a 2, b 1"), Waits: waits, State: state, Asked: asked, Got: [][]api.Item{lists.Of(one), lists.Of(two)}, Pending: pending, Cancelled: cancelled}
								if saga.May(s) {
									l = append(l, s)
								}
							}
						}
					}
				}
			}
		}
	}
	return l
}
