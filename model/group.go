package model

import (
	"slices"

	"entrepot/api"
	"entrepot/ask"
)

// name is by what a group, and its answer, is known.
type name struct {
	client int
	number int
}

// grouped has of each group its requests, in the order in which they are listed.
func grouped(asks []api.Ask) map[name][]api.Ask {
	groups := map[name][]api.Ask{}
	for a := range requests(asks) {
		n := name{client: a.Client, number: a.Number}
		groups[n] = append(groups[n], a)
	}
	return groups
}

func Plain(client, number int, asks []api.Ask) bool {
	return plain(grouped(asks)[name{client: client, number: number}])
}

// plain is of one group: where client and number are the same, all fields are so just if the bodies are.
func plain(group []api.Ask) bool {
	return !slices.ContainsFunc(group, func(a api.Ask) bool { return !ask.Same(a, group[0]) })
}

// The states of a group.
const (
	sure = 1 + iota
	refused
	open
)

// codes has of each group the Code of its answer, if there is one.
type codes map[name]api.Errno

func answered(answers []api.Answer) codes {
	first := codes{}
	for _, a := range answers {
		n := name{client: a.Client, number: a.Number}
		if _, is := first[n]; !is {
			first[n] = a.Code
		}
	}
	return first
}

func State(client, number int, answers []api.Answer) int {
	return answered(answers).state(name{client: client, number: number})
}

func (c codes) state(n name) int {
	code, is := c[n]
	if !is {
		return open
	}
	switch code {
	case api.OK:
		return sure
	case api.ErrClash, api.ErrStale, api.ErrFull:
		// These say nothing of what became of the number's first body.
		return open
	}
	return refused
}
