package saga_test

import (
	"slices"
	"testing"

	"entrepot/api"
	"entrepot/lists"
	"entrepot/saga"
)

// roomy is the same saga, of which each list has room behind its end, with something in it.
func roomy(s api.Saga) api.Saga {
	s.Want = append(slices.Clone(s.Want), lists.Of("y 7, z 8")...)[:len(s.Want)]
	s.Pending = append(slices.Clone(s.Pending), 7, 8)[:len(s.Pending)]
	l := slices.Clone(s.Got)
	for i := range l {
		l[i] = append(slices.Clone(l[i]), lists.Of("y 7, z 8")...)[:len(l[i])]
	}
	s.Got = append(l, lists.Of("y 7"), lists.Of("z 8"))[:len(l)]
	return s
}

// whole is a saga with what lies behind its lists' ends.
func whole(s api.Saga) api.Saga {
	s.Want, s.Got, s.Pending = s.Want[:cap(s.Want)], slices.Clone(s.Got[:cap(s.Got)]), s.Pending[:cap(s.Pending)]
	for i, l := range s.Got {
		s.Got[i] = l[:cap(l)]
	}
	return s
}

// spoil writes into each list of a saga, and into the room behind it.
func spoil(s api.Saga) {
	w := whole(s)
	for _, l := range append(slices.Clone(w.Got), w.Want) {
		spoilItems(l)
	}
	for i := range w.Pending {
		w.Pending[i] = 99
	}
	for i := range s.Got[:cap(s.Got)] {
		s.Got[:cap(s.Got)][i] = lists.Of("spoilt 1")
	}
}

func spoilItems(l []api.Item) {
	for i := range l[:cap(l)] {
		l[:cap(l)][i] = api.Item{Good: "spoilt", N: -1}
	}
}

// moves are events of each kind, of a region that is pending, if one is.
func moves(s api.Saga) []api.Event {
	region := 0
	if len(s.Pending) > 0 {
		region = s.Pending[0]
	}
	l := []api.Event{{Kind: api.EventFreed, Region: region}, {Kind: api.EventCancel}, {Kind: api.EventRetry}, {Kind: api.EventPick}, {Kind: api.EventShip}}
	for _, kind := range []int{api.EventTook, api.EventPicked, api.EventShipped} {
		has := s.Got[region]
		l = append(l, api.Event{Kind: kind, Region: region, Items: has}, api.Event{Kind: kind, Region: region, Items: s.Want}, api.Event{Kind: kind, Region: region, Items: lists.Of("a 1")})
	}
	return l
}

// R3: neither a saga that is handed in, nor items, nor what lies behind their ends, is changed; and what is answered shares nothing with them.
func TestNextSharesNothing(t *testing.T) {
	taken := map[int]int{}
	for _, s := range mays() {
		for _, e := range moves(s) {
			s, e := roomy(s), e
			e.Items = append(slices.Clone(e.Items), lists.Of("y 7, z 8")...)[:len(e.Items)]
			before, items := clone(whole(s)), slices.Clone(e.Items[:cap(e.Items)])
			n, steps, err := saga.Next(s, e)
			again, stepsAgain, _ := saga.Next(s, e)
			if err == api.OK {
				taken[e.Kind]++
			}
			want, wantSteps := clone(n), slices.Clone(steps)
			for i := range wantSteps {
				wantSteps[i].Items = slices.Clone(wantSteps[i].Items)
			}
			// Each list of an answer apart.
			for _, step := range steps {
				spoilItems(step.Items)
			}
			if !same(n, want) {
				t.Fatalf("%v shares a list with its steps", want)
			}
			spoil(n)
			for i := range steps[:cap(steps)] {
				steps[:cap(steps)][i] = api.Step{Kind: -1}
			}
			if !same(again, want) || !sameSteps(stepsAgain, wantSteps) {
				t.Fatalf("%v shares a list with another answer", want)
			}
			if !same(whole(s), before) || !sameItems(e.Items[:cap(e.Items)], items) {
				t.Fatalf("Next(%v, %v) changed %v to %v", s, e, before, whole(s))
			}
		}
	}
	for kind := api.EventTook; kind <= api.EventShipped; kind++ {
		if taken[kind] == 0 {
			t.Error("no event of kind", kind)
		}
	}
}

// R3: the lists of one answer share nothing with one another.
func TestListsOfASagaShareNothing(t *testing.T) {
	for _, s := range mays() {
		for _, e := range moves(s) {
			n, _, err := saga.Next(roomy(s), e)
			if err != api.OK {
				continue
			}
			b, _ := saga.Encode(n)
			decoded, _ := saga.Decode(b)
			apart(t, n)
			apart(t, decoded)
		}
		begun, _, _ := saga.Begin(s.Order, s.First, s.Regions, roomy(s).Want, s.Waits)
		apart(t, begun)
	}
}

// apart writes into one list after the other, and looks at those that were not written to yet.
func apart(t *testing.T, s api.Saga) {
	t.Helper()
	before := clone(s)
	spoilItems(s.Want)
	for i, l := range s.Got {
		for j, other := range s.Got[i:] {
			if !sameItems(other, before.Got[i+j]) {
				t.Fatalf("%v shares lists", before)
			}
		}
		spoilItems(l)
	}
}

// R3: Begin keeps nothing of what it is handed.
func TestBeginSharesNothing(t *testing.T) {
	room := lists.Of("a 5, b 1, y 7")
	s, steps, _ := saga.Begin(1, 0, 2, room[:2], false)
	spoilItems(steps[0].Items)
	if !sameItems(s.Want, lists.Of("a 5, b 1")) || !sameItems(room, lists.Of("a 5, b 1, y 7")) {
		t.Error(s, room)
	}
	spoil(s)
	if !sameItems(room, lists.Of("a 5, b 1, y 7")) {
		t.Error(room)
	}
	s, steps, _ = saga.Begin(1, 0, 2, room[:2], false)
	spoilItems(room)
	if !sameItems(s.Want, lists.Of("a 5, b 1")) || !sameItems(steps[0].Items, lists.Of("a 5, b 1")) {
		t.Error(s, steps)
	}
}

// R3: the other calls change nothing, and their answers are new.
func TestLooksChangeNothing(t *testing.T) {
	for _, s := range append(mays(), mayNots()...) {
		if len(s.Want) > 20 {
			continue
		}
		s = roomy(s)
		before := clone(whole(s))
		first, again := saga.Holders(s), saga.Holders(s)
		saga.May(s)
		saga.Same(s, s)
		b, _ := saga.Encode(s)
		c, _ := saga.Encode(s)
		for i := range first[:cap(first)] {
			first[:cap(first)][i] = 99
		}
		if slices.Contains(again, 99) {
			t.Fatal("holders are shared")
		}
		clear(b[:cap(b)])
		if len(c) > 0 && c[len(c)-1] > 1 || !same(whole(s), before) {
			t.Fatalf("%v, not %v", whole(s), before)
		}
		saga.Decode(c)
		if d, _ := saga.Encode(s); !slices.Equal(c, d) {
			t.Fatalf("%q, not %q", c, d)
		}
	}
}
