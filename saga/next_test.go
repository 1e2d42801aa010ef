package saga_test

import (
	"math"
	"slices"
	"testing"

	"entrepot/api"
	"entrepot/lists"
	"entrepot/saga"
)

// P15.1, P15.2: the chapter's example.
func TestExample(t *testing.T) {
	s, steps, e := saga.Begin(131, 0, 2, lists.Of("a 5"), false)
	if e != api.OK || !same(s, asks("a 5", "; ", 0, 1)) || !sameSteps(steps, take(0, "a 5")) {
		t.Fatal(s, steps, e)
	}
	goes(t, s, event(api.EventTook, 0, "a 3"), asks("a 5", "a 3; ", 0, 2), take(1, "a 2"))
	goes(t, asks("a 5", "a 3; ", 0, 2), event(api.EventTook, 1, "a 2"), of(api.SagaHeld, "a 5", "a 3; a 2"), told(api.SagaHeld))
}

// P15.1
func TestBegin(t *testing.T) {
	most := lists.Many(0, 16, 1<<40)
	for _, order := range []int{1, 2, 131, 1<<40 - 1, 1 << 40} {
		for _, want := range [][]api.Item{lists.Of("a 1"), lists.Of("- 1, a-0 128, z 2"), {{Good: "abcdefghijklmnop", N: 1 << 40}}, most} {
			for regions := 1; regions <= 8; regions++ {
				for first := range regions {
					for _, waits := range []bool{false, true} {
						s, steps, e := saga.Begin(order, first, regions, want, waits)
						if e != api.OK || !sameSteps(steps, []api.Step{{Kind: api.MailTake, Region: first, Items: want}}) {
							t.Errorf("Begin(%d, %d, %d, %v, %t): %v, %d", order, first, regions, want, waits, steps, e)
						}
						if !same(s, api.Saga{Order: order, First: first, Regions: regions, Want: want, Waits: waits, State: api.SagaAsking, Asked: 1, Got: make([][]api.Item, regions), Pending: []int{first}}) {
							t.Errorf("Begin(%d, %d, %d, %v, %t): %v", order, first, regions, want, waits, s)
						}
						if !saga.May(s) {
							t.Errorf("%v may not be", s)
						}
					}
				}
			}
		}
	}
}

// P15.1
func TestBeginOfWhatMayNotBe(t *testing.T) {
	refused := func(order, first, regions int, want []api.Item) {
		t.Helper()
		for _, waits := range []bool{false, true} {
			if s, steps, e := saga.Begin(order, first, regions, want, waits); e != api.ErrArg || !none(s) || len(steps) != 0 {
				t.Errorf("Begin(%d, %d, %d, %v) = %v, %v, %d", order, first, regions, want, s, steps, e)
			}
		}
	}
	want := lists.Of("a 5")
	for _, n := range []int{math.MinInt, -1 << 40, -131, -1, 0, 1<<40 + 1, 1 << 41, math.MaxInt} {
		refused(n, 0, 1, want)
		refused(n, 2, 8, want)
		refused(n, 1, 1, nil)
	}
	for _, n := range []int{math.MinInt, -1 << 40, -8, -1, 0, 9, 10, 256, 264, 1 << 40, math.MaxInt} {
		refused(1, 0, n, want)
		refused(1, n-1, n, want)
		refused(1, n, n, want)
		refused(0, 0, n, want)
	}
	for regions := 1; regions <= 8; regions++ {
		for _, first := range []int{math.MinInt, -8, -1, regions, regions + 1, 9, 256, math.MaxInt} {
			refused(1, first, regions, want)
		}
	}
	for _, wrong := range append(wrongs(), nil, []api.Item{}) {
		refused(1, 0, 1, wrong)
		refused(1, 2, 8, wrong)
		refused(0, 2, 8, wrong)
	}
}

// each is a saga of each state, of which region 1 is pending, if one is.
func each() map[int]api.Saga {
	return map[int]api.Saga{
		api.SagaAsking:   asks("a 5", "a 1; ; ", 0, 2),
		api.SagaHeld:     of(api.SagaHeld, "a 5", "a 1; a 4; "),
		api.SagaWaiting:  waiting(of(api.SagaWaiting, "a 5", "; ; ")),
		api.SagaUndoing:  of(api.SagaUndoing, "a 5", "a 1; a 3; ", 0, 1),
		api.SagaRefused:  of(api.SagaRefused, "a 5", "; ; "),
		api.SagaGone:     cancelled(of(api.SagaGone, "a 5", "; ; ")),
		api.SagaPicking:  of(api.SagaPicking, "a 5", "a 1; a 4; ", 0, 1),
		api.SagaPicked:   of(api.SagaPicked, "a 5", "a 1; a 4; "),
		api.SagaShipping: of(api.SagaShipping, "a 5", "a 1; a 4; ", 0, 1),
		api.SagaShipped:  of(api.SagaShipped, "a 5", "a 1; a 4; "),
	}
}

// P15.2: which events a state refuses, whatever region they are of, and whatever items they have.
func TestStatesRefuse(t *testing.T) {
	taken := map[int][]int{
		api.SagaAsking:   {api.EventTook, api.EventCancel},
		api.SagaHeld:     {api.EventCancel, api.EventPick},
		api.SagaWaiting:  {api.EventCancel, api.EventRetry},
		api.SagaUndoing:  {api.EventFreed, api.EventCancel},
		api.SagaRefused:  {},
		api.SagaGone:     {},
		api.SagaPicking:  {api.EventPicked},
		api.SagaPicked:   {api.EventShip},
		api.SagaShipping: {api.EventShipped},
		api.SagaShipped:  {},
	}
	if len(taken) != 10 {
		t.Fatal(len(taken))
	}
	for state, s := range each() {
		if !saga.May(s) || s.State != state {
			t.Fatal(s)
		}
		for kind := api.EventTook; kind <= api.EventShipped; kind++ {
			if slices.Contains(taken[state], kind) {
				if _, _, e := saga.Next(s, event(kind, 1, "a 4")); e != api.OK {
					t.Errorf("Next of state %d, kind %d: %d", state, kind, e)
				}
				continue
			}
			for region := -1; region <= 8; region++ {
				for _, items := range append(wrongs(), nil, lists.Of("a 1"), lists.Of("a 4"), lists.Of("a 9")) {
					stays(t, s, api.Event{Kind: kind, Region: region, Items: items}, api.ErrState)
				}
			}
		}
	}
}

// P15.2: kinds that there are not, and sagas that may not be.
func TestNextOfWhatMayNotBe(t *testing.T) {
	for _, s := range each() {
		for _, kind := range []int{math.MinInt, -8, -1, 0, 9, 10, 100, 256 + api.EventTook, 1<<32 + api.EventCancel, math.MaxInt} {
			stays(t, s, event(kind, 1, "a 4"), api.ErrArg)
			stays(t, s, api.Event{Kind: kind}, api.ErrArg)
		}
	}
	for _, s := range mayNots() {
		for kind := -1; kind <= 9; kind++ {
			stays(t, s, event(kind, 0, "a 1"), api.ErrArg)
		}
	}
}

// P15.2: EventTook, by all the ways on.
func TestTook(t *testing.T) {
	for _, c := range []struct {
		s     api.Saga
		items string
		want  api.Saga
		steps []api.Step
	}{
		// The next one is asked for what is missing.
		{asks("a 5", "; ; ", 0, 1), "", asks("a 5", "; ; ", 0, 2), take(1, "a 5")},
		{asks("a 5", "; ; ", 0, 1), "a 4", asks("a 5", "a 4; ; ", 0, 2), take(1, "a 1")},
		{asks("a 5, b 2", "; ; ", 0, 1), "b 2", asks("a 5, b 2", "b 2; ; ", 0, 2), take(1, "a 5")},
		{asks("a 5, b 2", "; b 1; ", 1, 2), "a 5", asks("a 5, b 2", "; b 1; a 5", 1, 3), take(0, "b 1")},
		{asks("a 5", "; ; ; ; ; ; ; ", 7, 1), "a 1", asks("a 5", "; ; ; ; ; ; ; a 1", 7, 2), take(0, "a 4")},
		{waiting(asks("a 5", "; ; ", 2, 1)), "a 4", waiting(asks("a 5", "; ; a 4", 2, 2)), take(0, "a 1")},
		// Nothing is missing.
		{asks("a 5", "; ; ", 0, 1), "a 5", of(api.SagaHeld, "a 5", "a 5; ; "), told(api.SagaHeld)},
		{asks("a 5", "a 2; ", 0, 2), "a 3", of(api.SagaHeld, "a 5", "a 2; a 3"), told(api.SagaHeld)},
		{waiting(asks("a 5, b 1", "; a 5; ", 0, 3)), "b 1", waiting(of(api.SagaHeld, "a 5, b 1", "; a 5; b 1")), told(api.SagaHeld)},
		// All were asked: it is undone, or ends.
		{asks("a 5", "a 2; ", 0, 2), "", of(api.SagaUndoing, "a 5", "a 2; ", 0), mails(api.MailFree, 0)},
		{asks("a 5", "a 2; ", 0, 2), "a 2", of(api.SagaUndoing, "a 5", "a 2; a 2", 0, 1), mails(api.MailFree, 0, 1)},
		{waiting(asks("a 5", "; ; a 1", 2, 3)), "a 1", waiting(of(api.SagaUndoing, "a 5", "; a 1; a 1", 1, 2)), mails(api.MailFree, 1, 2)},
		{asks("a 5", "; ", 0, 2), "", of(api.SagaRefused, "a 5", "; "), told(api.SagaRefused)},
		{waiting(asks("a 5", "; ", 0, 2)), "", waiting(of(api.SagaWaiting, "a 5", "; ")), told(api.SagaWaiting)},
		{asks("a 5", "", 0, 1), "", of(api.SagaRefused, "a 5", ""), told(api.SagaRefused)},
		{asks("a 5", "", 0, 1), "a 4", of(api.SagaUndoing, "a 5", "a 4", 0), mails(api.MailFree, 0)},
		// It is cancelled: it is undone, whatever there is, and whoever was not asked.
		{cancelled(asks("a 5", "; ; ", 0, 1)), "", cancelled(of(api.SagaGone, "a 5", "; ; ")), told(api.SagaGone)},
		{cancelled(waiting(asks("a 5", "; ; ", 0, 1))), "", cancelled(waiting(of(api.SagaGone, "a 5", "; ; "))), told(api.SagaGone)},
		{cancelled(asks("a 5", "; ; ", 0, 1)), "a 5", cancelled(of(api.SagaUndoing, "a 5", "a 5; ; ", 0)), mails(api.MailFree, 0)},
		{cancelled(asks("a 5", "; ; ", 0, 1)), "a 1", cancelled(of(api.SagaUndoing, "a 5", "a 1; ; ", 0)), mails(api.MailFree, 0)},
		{cancelled(asks("a 5", "; a 2; ", 1, 3)), "a 3", cancelled(of(api.SagaUndoing, "a 5", "a 3; a 2; ", 0, 1)), mails(api.MailFree, 0, 1)},
		{cancelled(waiting(asks("a 5", "a 2; ; ", 0, 2))), "", cancelled(waiting(of(api.SagaUndoing, "a 5", "a 2; ; ", 0))), mails(api.MailFree, 0)},
	} {
		c.want.First = c.s.First
		if c.want.State != api.SagaAsking {
			c.want.Asked = c.s.Asked
		}
		goes(t, c.s, event(api.EventTook, c.s.Pending[0], c.items), c.want, c.steps)
	}
}

// P15.2: what refuses an EventTook of a saga that asks.
func TestTookRefused(t *testing.T) {
	s := asks("a 5, b 2", "; ; a 2; ", 2, 2)
	for _, region := range []int{math.MinInt, -1, 0, 1, 2, 4, 8, 256 + 3, math.MaxInt} {
		for _, items := range append(wrongs(), nil, lists.Of("a 1"), lists.Of("a 9")) {
			stays(t, s, api.Event{Kind: api.EventTook, Region: region, Items: items}, api.ErrState)
		}
	}
	for _, l := range []string{"a 4", "a 5", "b 3", "a 3, b 3", "a 4, b 2", "c 1", "a 1, c 1", "a 3, b 2, c 1", "- 1"} {
		stays(t, s, event(api.EventTook, 3, l), api.ErrItems)
		stays(t, cancelled(s), event(api.EventTook, 3, l), api.ErrItems)
	}
	for _, items := range append(wrongs(), lists.Many(0, 16, 1<<40)) {
		stays(t, s, api.Event{Kind: api.EventTook, Region: 3, Items: items}, api.ErrItems)
	}
	for _, l := range []string{"", "a 1", "a 3", "b 2", "a 3, b 1", "a 3, b 2"} {
		if _, _, e := saga.Next(s, event(api.EventTook, 3, l)); e != api.OK {
			t.Error(l, e)
		}
	}
}

// P15.2: EventFreed; what it has in Items is not looked at.
func TestFreed(t *testing.T) {
	for _, l := range []string{"", "a 1", "A 0"} {
		freed := func(region int) api.Event { return event(api.EventFreed, region, l) }
		s := of(api.SagaUndoing, "a 5", "a 1; ; a 2; a 1", 0, 2, 3)
		goes(t, s, freed(0), of(api.SagaUndoing, "a 5", "; ; a 2; a 1", 2, 3), nil)
		goes(t, s, freed(2), of(api.SagaUndoing, "a 5", "a 1; ; ; a 1", 0, 3), nil)
		goes(t, s, freed(3), of(api.SagaUndoing, "a 5", "a 1; ; a 2; ", 0, 2), nil)
		goes(t, cancelled(waiting(s)), freed(2), cancelled(waiting(of(api.SagaUndoing, "a 5", "a 1; ; ; a 1", 0, 3))), nil)
		last := of(api.SagaUndoing, "a 5", "; ; a 2; ", 2)
		goes(t, last, freed(2), of(api.SagaRefused, "a 5", "; ; ; "), told(api.SagaRefused))
		goes(t, waiting(last), freed(2), waiting(of(api.SagaWaiting, "a 5", "; ; ; ")), told(api.SagaWaiting))
		goes(t, cancelled(last), freed(2), cancelled(of(api.SagaGone, "a 5", "; ; ; ")), told(api.SagaGone))
		goes(t, cancelled(waiting(last)), freed(2), cancelled(waiting(of(api.SagaGone, "a 5", "; ; ; "))), told(api.SagaGone))
		for _, region := range []int{math.MinInt, -1, 1, 4, 8, 256, math.MaxInt} {
			stays(t, s, freed(region), api.ErrState)
		}
		for _, region := range []int{0, 1, 3} {
			stays(t, last, freed(region), api.ErrState)
		}
	}
	// How many were asked stays.
	s := of(api.SagaUndoing, "a 5", "a 1; ; ", 0)
	s.Asked = 2
	want := of(api.SagaRefused, "a 5", "; ; ")
	want.Asked = 2
	goes(t, s, event(api.EventFreed, 0, ""), want, told(api.SagaRefused))
}

// P15.2: EventCancel; its Region and Items are not looked at.
func TestCancel(t *testing.T) {
	for _, cancel := range []api.Event{{Kind: api.EventCancel}, event(api.EventCancel, -1, "A 0"), event(api.EventCancel, 1, "a 1")} {
		for _, s := range []api.Saga{asks("a 5", "a 1; ; ", 0, 2), waiting(asks("a 5", "; ; ", 1, 1)), of(api.SagaUndoing, "a 5", "a 1; ; a 2", 0, 2), waiting(of(api.SagaUndoing, "a 5", "; a 5", 1))} {
			goes(t, s, cancel, cancelled(s), nil)
			stays(t, cancelled(s), cancel, api.ErrTwice)
		}
		goes(t, waiting(of(api.SagaWaiting, "a 5", "; ")), cancel, cancelled(waiting(of(api.SagaGone, "a 5", "; "))), told(api.SagaGone))
		goes(t, of(api.SagaHeld, "a 5", "a 2; ; a 3"), cancel, cancelled(of(api.SagaUndoing, "a 5", "a 2; ; a 3", 0, 2)), mails(api.MailFree, 0, 2))
		goes(t, waiting(of(api.SagaHeld, "a 5", "; a 5")), cancel, cancelled(waiting(of(api.SagaUndoing, "a 5", "; a 5", 1))), mails(api.MailFree, 1))
		for _, state := range []int{api.SagaRefused, api.SagaGone, api.SagaPicking, api.SagaPicked, api.SagaShipping, api.SagaShipped} {
			stays(t, each()[state], cancel, api.ErrState)
		}
		stays(t, cancelled(waiting(of(api.SagaGone, "a 5", "; "))), cancel, api.ErrState)
	}
}

// P15.2: EventRetry: as it began.
func TestRetry(t *testing.T) {
	for _, retry := range []api.Event{{Kind: api.EventRetry}, event(api.EventRetry, 2, "a 1")} {
		for regions := 1; regions <= 8; regions++ {
			for first := range regions {
				s, steps, _ := saga.Begin(99, first, regions, lists.Of("a 5, b 1"), true)
				again := clone(s)
				again.State, again.Pending, again.Asked = api.SagaWaiting, nil, regions
				goes(t, again, retry, s, steps)
				again.Asked = 1
				goes(t, again, retry, s, steps)
			}
		}
	}
}

// P15.2: EventPick and EventShip; their Region and Items are not looked at.
func TestPickAndShip(t *testing.T) {
	for _, c := range []struct{ event, from, to, kind int }{
		{api.EventPick, api.SagaHeld, api.SagaPicking, api.MailPick},
		{api.EventShip, api.SagaPicked, api.SagaShipping, api.MailShip},
	} {
		for _, e := range []api.Event{{Kind: c.event}, event(c.event, -1, "A 0"), event(c.event, 1, "a 1")} {
			goes(t, of(c.from, "a 5", "a 5"), e, of(c.to, "a 5", "a 5", 0), mails(c.kind, 0))
			goes(t, of(c.from, "a 5", "; a 2; ; a 3"), e, of(c.to, "a 5", "; a 2; ; a 3", 1, 3), mails(c.kind, 1, 3))
			goes(t, waiting(of(c.from, "a 8", "a 1; a 1; a 1; a 1; a 1; a 1; a 1; a 1")), e, waiting(of(c.to, "a 8", "a 1; a 1; a 1; a 1; a 1; a 1; a 1; a 1", 0, 1, 2, 3, 4, 5, 6, 7)), mails(c.kind, 0, 1, 2, 3, 4, 5, 6, 7))
			// Whoever is visited first, they rise.
			s := of(c.from, "a 5", "a 2; ; a 3")
			s.First = 2
			want := of(c.to, "a 5", "a 2; ; a 3", 0, 2)
			want.First = 2
			goes(t, s, e, want, mails(c.kind, 0, 2))
		}
	}
}

// P15.2: EventPicked and EventShipped.
func TestPickedAndShipped(t *testing.T) {
	for _, c := range []struct{ event, from, to int }{
		{api.EventPicked, api.SagaPicking, api.SagaPicked},
		{api.EventShipped, api.SagaShipping, api.SagaShipped},
	} {
		s := of(c.from, "a 5, b 1", "a 2; ; a 3; b 1", 0, 2, 3)
		goes(t, s, event(c.event, 0, "a 2"), of(c.from, "a 5, b 1", "a 2; ; a 3; b 1", 2, 3), nil)
		goes(t, s, event(c.event, 2, "a 3"), of(c.from, "a 5, b 1", "a 2; ; a 3; b 1", 0, 3), nil)
		goes(t, waiting(s), event(c.event, 3, "b 1"), waiting(of(c.from, "a 5, b 1", "a 2; ; a 3; b 1", 0, 2)), nil)
		last := of(c.from, "a 5, b 1", "a 2; ; a 3; b 1", 2)
		goes(t, last, event(c.event, 2, "a 3"), of(c.to, "a 5, b 1", "a 2; ; a 3; b 1"), told(c.to))
		goes(t, waiting(last), event(c.event, 2, "a 3"), waiting(of(c.to, "a 5, b 1", "a 2; ; a 3; b 1")), told(c.to))
		for _, region := range []int{math.MinInt, -1, 0, 1, 3, 4, 8, 256 + 2, math.MaxInt} {
			for _, l := range []string{"", "a 2", "a 3", "b 1", "A 0"} {
				stays(t, last, event(c.event, region, l), api.ErrState)
			}
		}
		for _, l := range []string{"", "a 2", "a 4", "b 3", "a 3, b 1", "a 0", "a 3, b 0", "a 3, a 3", "a 1, a 2", "A 3"} {
			stays(t, last, event(c.event, 2, l), api.ErrItems)
			stays(t, s, event(c.event, 2, l), api.ErrItems)
		}
		for _, items := range wrongs() {
			stays(t, s, api.Event{Kind: c.event, Region: 2, Items: items}, api.ErrItems)
		}
		two := of(c.from, "a 5, b 1", "a 5, b 1", 0)
		goes(t, two, event(c.event, 0, "a 5, b 1"), of(c.to, "a 5, b 1", "a 5, b 1"), told(c.to))
		for _, l := range []string{"a 5", "b 1", "b 1, a 5", "a 5, b 2", "a 5, b 1, c 1"} {
			stays(t, two, event(c.event, 0, l), api.ErrItems)
		}
	}
}

// P15.2: all that may happen to all sagas of one or two regions, with fields of small numbers.
func TestNextIsThePlainOne(t *testing.T) {
	happens := [][]api.Event{nil, events(1), events(2)}
	many := 0
	all(func(s api.Saga) {
		if !may(s) {
			return
		}
		many++
		for _, e := range happens[s.Regions] {
			if !agree(s, e) {
				n, steps, err := saga.Next(s, e)
				t.Fatalf("Next(%v, %v) = %v, %v, %d", s, e, n, steps, err)
			}
		}
	})
	if many < 500 {
		t.Error(many)
	}
}

// P15.4: what Next makes of the largest ones may be too.
func TestNextOfTheLargest(t *testing.T) {
	most := lists.Many(0, 16, 1<<40)
	s, _, _ := saga.Begin(1<<40, 7, 8, most, true)
	for number := 1; number <= 7; number++ {
		region := (6 + number) % 8
		n, steps, e := saga.Next(s, api.Event{Kind: api.EventTook, Region: region, Items: lists.Many(0, 16, 1<<37)})
		if e != api.OK || !saga.May(n) || len(steps) != 1 || !sameItems(steps[0].Items, lists.Many(0, 16, 1<<40-number<<37)) {
			t.Fatal(n, steps, e)
		}
		s = n
	}
	stays(t, s, api.Event{Kind: api.EventTook, Region: 6, Items: lists.Many(0, 16, 1<<37+1)}, api.ErrItems)
	s, steps, e := saga.Next(s, api.Event{Kind: api.EventTook, Region: 6, Items: lists.Many(0, 16, 1<<37)})
	if e != api.OK || s.State != api.SagaHeld || !sameSteps(steps, told(api.SagaHeld)) || !saga.May(s) {
		t.Fatal(s, steps, e)
	}
}
