package model

import (
	"entrepot/api"
	"entrepot/items"
)

// mover tells how many of some good a request moves, as some kind. Of a request that may be that is never below 0.
type mover func(a api.Ask) int

// Span goes over the groups in any order: sums that go round are the same in each.
func Span(kind int, good string, asks []api.Ask, answers []api.Answer) api.Range {
	moves, told := moving(kind, good, asks), answered(answers)
	var r api.Range
	for n, group := range grouped(asks) {
		state := told.state(n)
		if state == sure && plain(group) {
			r.Least += moves(group[0])
		}
		if state != refused {
			r.Most += moves.most(group)
		}
	}
	return r
}

func Within(n int, r api.Range) bool {
	return n >= r.Least && n <= r.Most
}

func moving(kind int, good string, asks []api.Ask) mover {
	var of mover
	switch kind {
	case api.AskReceive, api.AskReturn, api.AskRestock, api.AskScrap, api.AskMove:
		of = func(a api.Ask) int { return items.Of(a.Items, good) }
	case api.AskShip:
		most := ordered(good, asks)
		of = func(a api.Ask) int { return most[a.Order] }
	default:
		return func(api.Ask) int { return 0 }
	}
	return func(a api.Ask) int {
		if a.Kind != kind {
			return 0
		}
		return of(a)
	}
}

// ordered is of each order that is made the most of a good that one of the requests that make it has.
func ordered(good string, asks []api.Ask) map[int]int {
	most := map[int]int{}
	for order, a := range makers(asks) {
		most[order] = max(most[order], items.Of(a.Items, good))
	}
	return most
}

func (moves mover) most(group []api.Ask) int {
	most := 0
	for _, a := range group {
		most = max(most, moves(a))
	}
	return most
}
