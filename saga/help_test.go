package saga_test

import (
	"slices"
	"strings"
	"testing"

	"entrepot/api"
	"entrepot/lists"
	"entrepot/saga"
)

// got makes of `a 3; ; b 1` what each of three regions has.
func got(s string) [][]api.Item {
	var l [][]api.Item
	for _, part := range strings.Split(s, ";") {
		l = append(l, lists.Of(strings.TrimSpace(part)))
	}
	return l
}

// of is a saga of order 131 over as many regions as there are in has, region 0 first, of which all were asked.
func of(state int, want, has string, pending ...int) api.Saga {
	l := got(has)
	return api.Saga{Order: 131, Regions: len(l), Want: lists.Of(want), State: state, Asked: len(l), Got: l, Pending: pending}
}

// asks is one that asks its number-th region, those behind the first one coming one after the other.
func asks(want, has string, first, number int) api.Saga {
	s := of(api.SagaAsking, want, has, (first+number-1)%len(got(has)))
	s.First, s.Asked = first, number
	return s
}

func waiting(s api.Saga) api.Saga {
	s.Waits = true
	return s
}

func cancelled(s api.Saga) api.Saga {
	s.Cancelled = true
	return s
}

func take(region int, l string) []api.Step {
	return []api.Step{{Kind: api.MailTake, Region: region, Items: lists.Of(l)}}
}

func mails(kind int, regions ...int) []api.Step {
	var l []api.Step
	for _, region := range regions {
		l = append(l, api.Step{Kind: kind, Region: region})
	}
	return l
}

func told(state int) []api.Step {
	return []api.Step{{Kind: api.StepTold, State: state}}
}

// event makes one of a kind, a region, and items.
func event(kind, region int, l string) api.Event {
	return api.Event{Kind: kind, Region: region, Items: lists.Of(l)}
}

// same holds two sagas against each other field by field; nil and the empty list are the same.
func same(a, b api.Saga) bool {
	numbers := [5]int{a.Order, a.First, a.Regions, a.State, a.Asked} == [5]int{b.Order, b.First, b.Regions, b.State, b.Asked}
	flags := [2]bool{a.Waits, a.Cancelled} == [2]bool{b.Waits, b.Cancelled}
	return numbers && flags && sameItems(a.Want, b.Want) && slices.EqualFunc(a.Got, b.Got, sameItems) && slices.Equal(a.Pending, b.Pending)
}

func sameItems(a, b []api.Item) bool {
	return slices.Equal(a, b)
}

func sameSteps(a, b []api.Step) bool {
	return slices.EqualFunc(a, b, func(x, y api.Step) bool {
		return x.Kind == y.Kind && x.Region == y.Region && sameItems(x.Items, y.Items) && x.State == y.State
	})
}

func none(s api.Saga) bool {
	return same(s, api.Saga{}) && len(s.Got) == 0
}

// goes looks whether an event makes of a saga just this.
func goes(t *testing.T, s api.Saga, e api.Event, want api.Saga, steps []api.Step) {
	t.Helper()
	n, l, err := saga.Next(s, e)
	if err != api.OK || !same(n, want) || !sameSteps(l, steps) {
		t.Errorf("Next(%v, %v) = %v, %v, %d, not %v, %v", s, e, n, l, err, want, steps)
	}
	if !saga.May(n) {
		t.Errorf("%v may not be", n)
	}
}

// stays looks whether an event is refused, and nothing changed.
func stays(t *testing.T, s api.Saga, e api.Event, want api.Errno) {
	t.Helper()
	before, items := clone(s), slices.Clone(e.Items)
	n, l, err := saga.Next(s, e)
	if err != want || !none(n) || len(l) != 0 {
		t.Errorf("Next(%v, %v) = %v, %v, %d, not %d", s, e, n, l, err, want)
	}
	if !same(s, before) || !sameItems(e.Items, items) {
		t.Errorf("Next changed %v to %v", before, s)
	}
}

func clone(s api.Saga) api.Saga {
	s.Want, s.Got, s.Pending = slices.Clone(s.Want), slices.Clone(s.Got), slices.Clone(s.Pending)
	for i, l := range s.Got {
		s.Got[i] = slices.Clone(l)
	}
	return s
}

// wrongs are lists that may not be.
func wrongs() [][]api.Item {
	return [][]api.Item{
		make([]api.Item, 1), lists.Of("a 0"), lists.Of("a -1"), {{N: 1}}, lists.Of("A 1"), lists.Of("b 1, a 1"), lists.Of("a 1, a 1"), lists.Of("a 1, b 0"),
		{{Good: "a", N: 1<<40 + 1}}, {{Good: "abcdefghijklmnopq", N: 1}}, lists.Many(0, 17, 1), lists.Many(0, 300, 1),
	}
}
