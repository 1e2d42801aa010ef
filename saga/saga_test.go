package saga_test

import (
	"math"
	"math/rand"
	"slices"
	"testing"

	"entrepot/api"
	"entrepot/lists"
	"entrepot/saga"
)

// P15.3
func TestOver(t *testing.T) {
	ends := []int{api.SagaRefused, api.SagaGone, api.SagaShipped}
	for state := -20; state <= 300; state++ {
		if saga.Over(state) != slices.Contains(ends, state) {
			t.Error(state, saga.Over(state))
		}
	}
	for _, state := range []int{math.MinInt, math.MaxInt, 1<<32 + api.SagaGone} {
		if saga.Over(state) {
			t.Error(state)
		}
	}
}

// P15.3
func TestHolders(t *testing.T) {
	for has, want := range map[string][]int{
		"":                        nil,
		"; ; ":                    nil,
		"a 1":                     {0},
		"; a 1":                   {1},
		"a 1; ; b 2":              {0, 2},
		"a 1; b 1; a 1":           {0, 1, 2},
		"; ; ; ; ; ; ; c 1":       {7},
		"a 1; ; b 1; ; ; ; ; d 1": {0, 2, 7},
	} {
		if l := saga.Holders(of(api.SagaAsking, "a 9", has, 1)); !slices.Equal(l, want) {
			t.Errorf("%q: %v, not %v", has, l, want)
		}
	}
	// Whatever is visited first, they rise.
	s := asks("a 5", "a 1; ; a 2; a 1", 2, 4)
	if l := saga.Holders(s); !saga.May(s) || !slices.Equal(l, []int{0, 2, 3}) {
		t.Error(l)
	}
	if l := saga.Holders(api.Saga{}); len(l) != 0 {
		t.Error(l)
	}
	if l := saga.Holders(api.Saga{Got: [][]api.Item{{}, nil, {}}}); len(l) != 0 {
		t.Error("empty lists:", l)
	}
}

// full is a saga with something in each field: it may not be, but it is the same as itself.
func full() api.Saga {
	return api.Saga{
		Order: 1, First: 2, Regions: 3, Want: lists.Of("a 1, b 2"), Waits: true, State: 4, Asked: 5,
		Got: got("a 1; b 2, c 3"), Pending: []int{6, 7}, Cancelled: true,
	}
}

// P15.3: each field alone makes another saga, whether it may be or not.
func TestSameLooksAtEachField(t *testing.T) {
	if !saga.Same(full(), full()) || !saga.Same(api.Saga{}, api.Saga{}) || saga.Same(full(), api.Saga{}) {
		t.Error("a saga is itself, and no other")
	}
	unlike := func(name string, change func(s *api.Saga)) {
		t.Helper()
		s := full()
		change(&s)
		if saga.Same(s, full()) || saga.Same(full(), s) {
			t.Error(name, "is not looked at")
		}
	}
	for _, n := range []int{-1, 0, 9} {
		unlike("Order", func(s *api.Saga) { s.Order = n })
		unlike("First", func(s *api.Saga) { s.First = n })
		unlike("Regions", func(s *api.Saga) { s.Regions = n })
		unlike("State", func(s *api.Saga) { s.State = n })
		unlike("Asked", func(s *api.Saga) { s.Asked = n })
	}
	unlike("Waits", func(s *api.Saga) { s.Waits = false })
	unlike("Cancelled", func(s *api.Saga) { s.Cancelled = false })
	for _, l := range []string{"", "a 1", "a 1, b 3", "a 1, c 2", "b 2, a 1", "a 1, b 2, c 1"} {
		unlike("Want", func(s *api.Saga) { s.Want = lists.Of(l) })
	}
	for _, l := range []string{"", "; ", "a 1", "a 1; b 2", "a 1; b 2, c 4", "a 2; b 2, c 3", "b 2, c 3; a 1", "a 1; b 2, c 3; ", "; a 1; b 2, c 3", "a 1; b 2; c 3"} {
		unlike("Got", func(s *api.Saga) { s.Got = got(l) })
	}
	for _, l := range [][]int{nil, {6}, {7}, {6, 8}, {7, 6}, {6, 7, 7}, {6, 7, 0}} {
		unlike("Pending", func(s *api.Saga) { s.Pending = l })
	}
}

// R3: nil and the empty list are the same everywhere.
func TestSameOfEmptyLists(t *testing.T) {
	a := api.Saga{Got: [][]api.Item{nil, {}}}
	b := api.Saga{Want: []api.Item{}, Got: [][]api.Item{{}, nil}, Pending: []int{}}
	if !saga.Same(a, b) || !saga.Same(b, a) || !saga.Same(api.Saga{}, api.Saga{Got: [][]api.Item{}}) {
		t.Error("empty lists are others")
	}
	if saga.Same(a, api.Saga{}) || saga.Same(a, api.Saga{Got: make([][]api.Item, 3)}) {
		t.Error("how many lists there are is not looked at")
	}
	c := full()
	c.Want, c.Pending = lists.Of("a 1, b 2, z 1")[:2], []int{6, 7, 8}[:2]
	if !saga.Same(full(), c) {
		t.Error("what lies behind a list's end is looked at")
	}
}

// mays are sagas that may be: of each state, with the flags that it may have, and those at the edges of each field.
func mays() []api.Saga {
	l := []api.Saga{
		asks("a 5", "; ", 0, 1), waiting(asks("a 5", "; ", 0, 1)), cancelled(asks("a 5", "; ", 0, 1)), cancelled(waiting(asks("a 5", "; ", 0, 1))),
		asks("a 5", "a 4; ", 0, 2), asks("a 5", "; ", 0, 2), asks("a 5, b 1", "; ; a 5", 2, 2), asks("a 5, b 1", "a 5; ; ", 2, 3), asks("a 5", "a 1; ; a 1", 2, 3),
		asks("a 5", "", 0, 1), asks("a 9", "a 1; a 1; a 1; a 1; ; a 1; a 1; a 1", 5, 8), asks("a 9", "; ; ; ; ; ; ; ", 7, 1),
		of(api.SagaHeld, "a 5", "a 3; a 2"), of(api.SagaHeld, "a 5", "; a 5; "), waiting(of(api.SagaHeld, "a 5, b 2", "a 5; b 2")),
		of(api.SagaPicked, "a 5", "a 3; a 2"), waiting(of(api.SagaPicked, "a 5", "a 5")), of(api.SagaShipped, "a 5", "a 3; a 2"), waiting(of(api.SagaShipped, "a 5", "a 5")),
		of(api.SagaPicking, "a 5", "a 3; a 2", 0), of(api.SagaPicking, "a 5", "a 3; a 2", 1), waiting(of(api.SagaPicking, "a 5", "a 3; a 2", 0, 1)),
		of(api.SagaShipping, "a 5", "a 3; ; a 2", 0), waiting(of(api.SagaShipping, "a 5", "a 3; ; a 2", 2)), of(api.SagaShipping, "a 5", "a 3; ; a 2", 0, 2),
		of(api.SagaUndoing, "a 5", "a 3; ; a 2", 0, 2), of(api.SagaUndoing, "a 5", "a 3; ; a 1", 0, 2), cancelled(of(api.SagaUndoing, "a 5", "; ; a 1", 2)), waiting(of(api.SagaUndoing, "a 5", "a 5", 0)), cancelled(waiting(of(api.SagaUndoing, "a 5", "a 5", 0))),
		waiting(of(api.SagaWaiting, "a 5", "; ")), of(api.SagaRefused, "a 5", "; "), cancelled(of(api.SagaGone, "a 5", "; ")), cancelled(waiting(of(api.SagaGone, "a 5", "; "))),
	}
	// Where nothing is asked for, how many were asked is any number of these.
	for asked := 1; asked <= 3; asked++ {
		for _, s := range []api.Saga{of(api.SagaHeld, "a 5", "; a 2; a 3"), of(api.SagaUndoing, "a 5", "; a 2; a 1", 1, 2), of(api.SagaRefused, "a 5", "; ; "), of(api.SagaPicking, "a 2", "; ; a 2", 2)} {
			s.Asked = asked
			l = append(l, s)
		}
	}
	for _, order := range []int{1, 2, 1<<40 - 1, 1 << 40} {
		s := of(api.SagaHeld, "a 5", "a 5")
		s.Order = order
		l = append(l, s)
	}
	return append(l, largest()...)
}

// largest are of the most regions, the most goods, and the most of each.
func largest() []api.Saga {
	most := lists.Many(0, 16, 1<<40)
	s := api.Saga{Order: 1 << 40, First: 7, Regions: 8, Want: most, State: api.SagaShipping, Asked: 8, Pending: []int{0, 1, 2, 3, 4, 5, 6, 7}}
	for range 8 {
		s.Got = append(s.Got, lists.Many(0, 16, 1<<37))
	}
	one := api.Saga{Order: 1, Regions: 1, Want: most, State: api.SagaHeld, Asked: 1, Got: [][]api.Item{most}}
	asking := api.Saga{Order: 1, Regions: 2, Want: most, State: api.SagaAsking, Asked: 2, Got: [][]api.Item{lists.Many(0, 16, 1<<40-1), nil}, Pending: []int{1}}
	return []api.Saga{s, one, asking}
}

// P15.3
func TestMay(t *testing.T) {
	for _, s := range mays() {
		if !saga.May(s) {
			t.Errorf("%v may not be", s)
		}
		// R3
		for i := range s.Got {
			if len(s.Got[i]) == 0 {
				s.Got[i] = []api.Item{}
			}
		}
		if len(s.Pending) == 0 {
			s.Pending = []int{}
		}
		if !saga.May(s) {
			t.Errorf("%v may not be with empty lists", s)
		}
	}
}

// mayNots are sagas with one thing wrong each.
func mayNots() []api.Saga {
	l := []api.Saga{{}, full()}
	change := func(s api.Saga, do func(s *api.Saga)) {
		s = clone(s)
		do(&s)
		l = append(l, s)
	}
	for _, s := range mays() {
		for _, n := range []int{math.MinInt, -1 << 40, -131, -1, 0, 1<<40 + 1, math.MaxInt} {
			change(s, func(s *api.Saga) { s.Order = n })
		}
		for _, n := range []int{math.MinInt, -1, s.Regions, s.Regions + 1, 8, math.MaxInt} {
			change(s, func(s *api.Saga) { s.First = n })
		}
		for _, n := range []int{math.MinInt, -1, 0, s.Regions - 1, s.Regions + 1, 9, 256 + s.Regions, math.MaxInt} {
			change(s, func(s *api.Saga) { s.Regions = n })
		}
		for _, n := range []int{math.MinInt, -1, 0, s.Regions + 1, 9, 256 + s.Asked, math.MaxInt} {
			change(s, func(s *api.Saga) { s.Asked = n })
		}
		for _, n := range []int{math.MinInt, -1, 0, 11, 12, 100, 256 + s.State, -s.State, 1<<32 + s.State, math.MaxInt} {
			change(s, func(s *api.Saga) { s.State = n })
		}
		for _, wrong := range append(wrongs(), nil, []api.Item{}) {
			change(s, func(s *api.Saga) { s.Want = wrong })
		}
		for region := range s.Got {
			for _, wrong := range append(wrongs(), lists.Of("a 6"), lists.Of("c 1"), lists.Of("a 1, c 1")) {
				if len(s.Want) < 16 {
					change(s, func(s *api.Saga) { s.Got[region] = wrong })
				}
			}
		}
		change(s, func(s *api.Saga) { s.Got = append(s.Got, nil) })
		change(s, func(s *api.Saga) { s.Got = s.Got[:len(s.Got)-1] })
		change(s, func(s *api.Saga) { s.Got = nil })
		for _, n := range []int{math.MinInt, -1, s.Regions, 8, 64, 256, math.MaxInt} {
			change(s, func(s *api.Saga) { s.Pending = append(s.Pending, n) })
			change(s, func(s *api.Saga) { s.Pending = []int{n} })
			change(s, func(s *api.Saga) { s.Pending = append([]int{n}, s.Pending...) })
		}
		if len(s.Pending) > 0 {
			change(s, func(s *api.Saga) { s.Pending = nil })
			change(s, func(s *api.Saga) { s.Pending = append(s.Pending, s.Pending[0]) })
			change(s, func(s *api.Saga) { s.Pending = append(s.Pending, s.Pending...) })
		}
		if len(s.Pending) > 1 {
			change(s, func(s *api.Saga) { slices.Reverse(s.Pending) })
		}
	}
	return append(l, wrongStates()...)
}

// wrongStates have in their fields what may be, but not in that state.
func wrongStates() []api.Saga {
	l := []api.Saga{
		// Nothing is missing; another one is pending; one is a holder that was not visited ahead; two are pending.
		asks("a 5", "a 5; ", 0, 2), asks("a 5", "; a 5", 0, 1), of(api.SagaAsking, "a 5", "; ; ", 1), of(api.SagaAsking, "a 5", "; ; ", 0), of(api.SagaAsking, "a 5", "; ; "),
		asks("a 5", "; ; a 1", 0, 3), asks("a 5", "; a 1; ", 0, 1), asks("a 5", "a 1; ", 0, 1), asks("a 5", "a 1; ; ", 1, 2), asks("a 5", "; ; a 1", 1, 1), of(api.SagaAsking, "a 5", "; ; ", 1, 2), of(api.SagaAsking, "a 5", "; ; ", 2, 2),
		// Something is missing; it is cancelled; one is pending.
		of(api.SagaUndoing, "a 5", "; "), of(api.SagaUndoing, "a 5", "; ", 0), of(api.SagaUndoing, "a 5", "a 1; a 1"), of(api.SagaUndoing, "a 5", "a 1; a 1", 0), of(api.SagaUndoing, "a 5", "a 1; a 1", 1), of(api.SagaUndoing, "a 5", "a 1; ", 0, 1), of(api.SagaUndoing, "a 5", "a 1; a 1", 1, 0),
		of(api.SagaWaiting, "a 5", "; "), cancelled(waiting(of(api.SagaWaiting, "a 5", "; "))), waiting(of(api.SagaWaiting, "a 5", "a 1; ")), waiting(of(api.SagaWaiting, "a 5", "; ", 1)), waiting(of(api.SagaWaiting, "a 5", "a 5; ")),
		waiting(of(api.SagaRefused, "a 5", "; ")), cancelled(of(api.SagaRefused, "a 5", "; ")), of(api.SagaRefused, "a 5", "; a 1"), of(api.SagaRefused, "a 5", "; ", 0), of(api.SagaRefused, "a 5", "a 5; "),
		of(api.SagaGone, "a 5", "; "), waiting(of(api.SagaGone, "a 5", "; ")), cancelled(of(api.SagaGone, "a 5", "a 1; ")), cancelled(of(api.SagaGone, "a 5", "; ", 0)),
	}
	for _, state := range []int{api.SagaHeld, api.SagaPicked, api.SagaShipped} {
		l = append(l, of(state, "a 5", "a 4; "), of(state, "a 5, b 1", "a 5; "), of(state, "a 5", "; "), cancelled(of(state, "a 5", "a 5; ")), of(state, "a 5", "a 3; a 2", 0), of(state, "a 5", "a 3; a 2", 0, 1), cancelled(waiting(of(state, "a 5", "a 5; "))))
	}
	for _, state := range []int{api.SagaPicking, api.SagaShipping} {
		l = append(l, of(state, "a 5", "a 4; ", 0), of(state, "a 5", "a 3; a 1", 0, 1), cancelled(of(state, "a 5", "a 5; ", 0)), of(state, "a 5", "a 5; "), of(state, "a 5", "a 5; ", 1), of(state, "a 5", "a 5; ", 0, 1), of(state, "a 5", "a 3; a 2", 1, 0), of(state, "a 5", "a 3; a 2", 0, 0), of(state, "a 5", "; ", 0))
	}
	return l
}

// P15.3
func TestMayNot(t *testing.T) {
	for _, s := range mayNots() {
		if saga.May(s) {
			t.Errorf("%v may be", s)
		}
	}
	// More than is wanted, of all regions together.
	for _, has := range []string{"a 3; a 3", "a 5; a 1", "a 5; b 1", "a 1, b 1; a 4", "a 2; a 2; a 2"} {
		for state := 1; state <= 10; state++ {
			for _, pending := range [][]int{nil, {0}, {1}, {0, 1}, {2}, {0, 1, 2}} {
				s := of(state, "a 5", has, pending...)
				if saga.May(s) || saga.May(waiting(s)) || saga.May(cancelled(s)) {
					t.Errorf("%v may be", s)
				}
			}
		}
	}
	// Sums that go round.
	s := of(api.SagaHeld, "a 5", "")
	s.Regions, s.Asked, s.Got = 8, 8, slices.Repeat([][]api.Item{{{Good: "a", N: 1 << 40}}}, 8)
	if saga.May(s) {
		t.Error("much more than is wanted may be")
	}
}

// P15.3: of all sagas of one or two regions, with fields of small numbers and a little beyond.
func TestMayIsThePlainOne(t *testing.T) {
	many := map[int]int{}
	all(func(s api.Saga) {
		is := may(s)
		if saga.May(s) != is {
			t.Fatalf("May(%v) = %t", s, !is)
		}
		if is {
			many[s.State]++
		}
	})
	if len(many) != 10 {
		t.Error("states:", many)
	}
}

// chance is a saga of up to eight regions whose fields are mostly right.
func chance(r *rand.Rand) api.Saga {
	many := 1 + r.Intn(8)
	s := api.Saga{Order: 1 + r.Intn(300), First: r.Intn(many), Regions: many, Waits: r.Intn(2) == 0, State: 1 + r.Intn(10), Asked: 1 + r.Intn(many), Cancelled: r.Intn(4) == 0}
	want := map[string]int{"a": 1 + r.Intn(9), "b": r.Intn(5), "c": r.Intn(2)}
	s.Want = list(want)
	whole := r.Intn(3) > 0
	s.Got = make([][]api.Item, many)
	for i := range many {
		share := map[string]int{}
		for good := range 3 {
			name := string(rune('a' + good))
			n := r.Intn(min(want[name], 3) + 1)
			if s.State == 1 && i >= s.Asked-1 || s.State == 3 || s.State == 5 || s.State == 6 {
				n = 0
			} else if whole && i == many-1 && s.State != 1 {
				n = want[name]
			}
			share[name] = n
			want[name] -= n
		}
		s.Got[visited(s, i+1)] = list(share)
	}
	switch s.State {
	case 1:
		s.Pending = []int{visited(s, s.Asked)}
	case 4:
		s.Pending = regions(has(s))
	case 7, 9:
		s.Pending = regions(has(s) & r.Intn(256))
	}
	if r.Intn(8) == 0 {
		s.Pending = append(s.Pending, r.Intn(9)-1)
	}
	return s
}

// P15.2, P15.3: by chance, of more regions.
func TestSagasByChance(t *testing.T) {
	r := rand.New(rand.NewSource(15))
	many, errors := map[int]int{}, map[api.Errno]int{}
	for range 150000 {
		s := chance(r)
		if saga.May(s) != may(s) {
			t.Fatalf("May(%v) = %t", s, saga.May(s))
		}
		if !may(s) {
			continue
		}
		many[s.State]++
		e := api.Event{Kind: 1 + r.Intn(8), Region: r.Intn(s.Regions+2) - 1}
		if len(s.Pending) > 0 && r.Intn(4) > 0 {
			e.Region = s.Pending[r.Intn(len(s.Pending))]
		}
		if missing, _ := left(s); r.Intn(2) == 0 {
			for good, n := range missing {
				missing[good] = r.Intn(n + 1)
			}
			e.Items = list(missing)
		} else if e.Region >= 0 && e.Region < s.Regions {
			e.Items = s.Got[e.Region]
		}
		if !agree(s, e) {
			t.Fatalf("Next(%v, %v)", s, e)
		}
		_, _, err := saga.Next(s, e)
		errors[err]++
	}
	for state := 1; state <= 10; state++ {
		if many[state] < 500 {
			t.Error("of state", state, "only", many[state])
		}
	}
	for _, e := range []api.Errno{api.OK, api.ErrTwice, api.ErrItems, api.ErrState} {
		if errors[e] < 100 {
			t.Error("errors:", e, errors[e])
		}
	}
}
