package saga

import (
	"slices"

	"entrepot/api"
	"entrepot/items"
	"entrepot/plan"
)

// onward is how a saga goes on. The one that is handed to it has lists of its own, which may be changed.
type onward func(s api.Saga) (api.Saga, []api.Step, api.Errno)

func Begin(order, first, regions int, want []api.Item, waits bool) (api.Saga, []api.Step, api.Errno) {
	s := api.Saga{
		Order: order, First: first, Regions: regions, Want: slices.Clone(want), Waits: waits, State: api.SagaAsking,
		// As many as are visited: regions itself may be any number.
		Asked: 1, Got: make([][]api.Item, len(plan.Visit(first, regions))), Pending: []int{first},
	}
	if !May(s) {
		return refused(api.ErrArg)
	}
	return take(s)
}

// Next is handed a value, but its lists are shared: what goes on is one with lists of its own.
func Next(s api.Saga, e api.Event) (api.Saga, []api.Step, api.Errno) {
	if !May(s) {
		return refused(api.ErrArg)
	}
	s = own(s)
	switch e.Kind {
	case api.EventTook:
		return took(s, e)
	case api.EventFreed:
		return freed(s, e)
	case api.EventCancel:
		return cancel(s)
	case api.EventRetry:
		return retry(s)
	case api.EventPick:
		return start(s, api.SagaHeld, api.SagaPicking, api.MailPick)
	case api.EventPicked:
		return done(s, e, api.SagaPicking, api.SagaPicked)
	case api.EventShip:
		return start(s, api.SagaPicked, api.SagaShipping, api.MailShip)
	case api.EventShipped:
		return done(s, e, api.SagaShipping, api.SagaShipped)
	}
	return refused(api.ErrArg)
}

func own(s api.Saga) api.Saga {
	s.Want, s.Got, s.Pending = slices.Clone(s.Want), slices.Clone(s.Got), slices.Clone(s.Pending)
	// Of an empty list too: there may be room behind its end.
	for region, l := range s.Got {
		s.Got[region] = slices.Clone(l)
	}
	return s
}

func refused(e api.Errno) (api.Saga, []api.Step, api.Errno) {
	return api.Saga{}, nil, e
}

// awaits is whether a saga is in that state, and the region's answer is one that it waits for.
func awaits(s api.Saga, state, region int) bool {
	return s.State == state && slices.Contains(s.Pending, region)
}

func took(s api.Saga, e api.Event) (api.Saga, []api.Step, api.Errno) {
	switch {
	case !awaits(s, api.SagaAsking, e.Region):
		return refused(api.ErrState)
	case !items.Covers(missing(s), e.Items):
		return refused(api.ErrItems)
	}
	s.Got[e.Region] = slices.Clone(e.Items)
	switch {
	case s.Cancelled:
		return undo(s)
	case len(missing(s)) == 0:
		return tell(s, api.SagaHeld)
	case s.Asked == s.Regions:
		return undo(s)
	}
	s.Pending = []int{plan.Visit(s.First, s.Regions)[s.Asked]}
	s.Asked++
	return take(s)
}

// take asks the region that is pending.
func take(s api.Saga) (api.Saga, []api.Step, api.Errno) {
	return s, []api.Step{{Kind: api.MailTake, Region: s.Pending[0], Items: missing(s)}}, api.OK
}

func freed(s api.Saga, e api.Event) (api.Saga, []api.Step, api.Errno) {
	if !awaits(s, api.SagaUndoing, e.Region) {
		return refused(api.ErrState)
	}
	s.Got[e.Region] = nil
	return answered(s, e.Region, end)
}

func cancel(s api.Saga) (api.Saga, []api.Step, api.Errno) {
	again := s.Cancelled
	s.Cancelled = true
	switch s.State {
	case api.SagaAsking, api.SagaUndoing:
		if again {
			return refused(api.ErrTwice)
		}
		// What comes of it waits for the regions that are pending.
		return s, nil, api.OK
	case api.SagaWaiting:
		return end(s)
	case api.SagaHeld:
		return undo(s)
	}
	return refused(api.ErrState)
}

func retry(s api.Saga) (api.Saga, []api.Step, api.Errno) {
	if s.State != api.SagaWaiting {
		return refused(api.ErrState)
	}
	return Begin(s.Order, s.First, s.Regions, s.Want, s.Waits)
}

func start(s api.Saga, from, to, kind int) (api.Saga, []api.Step, api.Errno) {
	if s.State != from {
		return refused(api.ErrState)
	}
	return ask(s, to, kind)
}

// ask asks all holders by mail of that kind, and waits for each.
func ask(s api.Saga, state, kind int) (api.Saga, []api.Step, api.Errno) {
	s.State, s.Pending = state, Holders(s)
	var steps []api.Step
	for region := range holders(s) {
		steps = append(steps, api.Step{Kind: kind, Region: region})
	}
	return s, steps, api.OK
}

func done(s api.Saga, e api.Event, from, to int) (api.Saga, []api.Step, api.Errno) {
	switch {
	case !awaits(s, from, e.Region):
		return refused(api.ErrState)
	case !slices.Equal(e.Items, s.Got[e.Region]):
		return refused(api.ErrItems)
	}
	return answered(s, e.Region, func(s api.Saga) (api.Saga, []api.Step, api.Errno) { return tell(s, to) })
}

// answered goes on behind the last answer alone.
func answered(s api.Saga, region int, then onward) (api.Saga, []api.Step, api.Errno) {
	s.Pending = slices.DeleteFunc(s.Pending, func(other int) bool { return other == region })
	if len(s.Pending) > 0 {
		return s, nil, api.OK
	}
	return then(s)
}

func undo(s api.Saga) (api.Saga, []api.Step, api.Errno) {
	if len(Holders(s)) == 0 {
		return end(s)
	}
	return ask(s, api.SagaUndoing, api.MailFree)
}

func end(s api.Saga) (api.Saga, []api.Step, api.Errno) {
	switch {
	case s.Cancelled:
		return tell(s, api.SagaGone)
	case s.Waits:
		return tell(s, api.SagaWaiting)
	}
	return tell(s, api.SagaRefused)
}

func tell(s api.Saga, state int) (api.Saga, []api.Step, api.Errno) {
	s.State, s.Pending = state, nil
	return s, []api.Step{{Kind: api.StepTold, State: state}}, api.OK
}
