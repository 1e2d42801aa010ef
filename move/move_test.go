package move_test

import (
	"slices"
	"testing"

	"entrepot/api"
	"entrepot/move"
)

// P19.1: the chapter's example.
func TestExample(t *testing.T) {
	m := move.New()
	goes(t, m, 1, 0, 2, list("a 5"), api.OK)
	comes(t, m, 1, list("a 5"), api.OK)
	comes(t, m, 1, nil, api.ErrTwice)
}

// P19.1
func TestGo(t *testing.T) {
	m := move.New()
	has(t, "new", m)
	goes(t, m, 5, 0, 2, list("a 3, b 1"), api.OK)
	has(t, "one", m, under(5, 0, 2, "a 3, b 1"))
	goes(t, m, 1, 2, 0, list("c 2"), api.OK)
	goes(t, m, api.MaxOrder, 7, 6, item("a", most), api.OK)
	goes(t, m, 300, 0, 7, goods(0, 16, most), api.OK)
	great := api.Way{Move: 300, From: 0, To: 7, Items: goods(0, 16, most)}
	last := api.Way{Move: api.MaxOrder, From: 7, To: 6, Items: item("a", most)}
	has(t, "four", m, under(1, 2, 0, "c 2"), under(5, 0, 2, "a 3, b 1"), great, last)
	if move.New().Len() != 0 {
		t.Error("two are one")
	}
}

// P19.1: from each region to each other.
func TestGoBetweenAnyTwo(t *testing.T) {
	m := move.New()
	var l []api.Way
	for from := range 8 {
		for to := range 8 {
			number := 1 + 8*from + to
			if from == to {
				goes(t, m, number, from, to, list("a 1"), api.ErrArg)
				continue
			}
			goes(t, m, number, from, to, list("a 1"), api.OK)
			l = append(l, under(number, from, to, "a 1"))
		}
	}
	has(t, "all", m, l...)
}

// P19.1: each refusal beside all that come behind it.
func TestGoRefuses(t *testing.T) {
	m := unpacked(t, under(5, 0, 2, "a 3"), came(6, 0, 2, "a 3"))
	wrong := append(mayNots(), nil, []api.Item{})
	for _, l := range append(wrong, list("a 3")) {
		for _, number := range noMoves() {
			goes(t, m, number, 0, 2, l, api.ErrArg)
			goes(t, m, number, 3, 3, l, api.ErrArg)
			goes(t, m, number, 8, -1, l, api.ErrArg)
		}
		for _, way := range noWays() {
			for _, number := range []int{1, 5, 6, api.MaxOrder, 0} {
				goes(t, m, number, way[0], way[1], l, api.ErrArg)
			}
		}
	}
	for _, l := range wrong {
		for _, number := range []int{1, 5, 6, api.MaxOrder} {
			goes(t, m, number, 0, 2, l, api.ErrItems)
			goes(t, m, number, 7, 0, l, api.ErrItems)
		}
	}
	for _, number := range []int{5, 6} {
		goes(t, m, number, 0, 2, list("a 3"), api.ErrTwice)
		goes(t, m, number, 1, 7, list("b 1"), api.ErrTwice)
	}
	has(t, "refused", m, under(5, 0, 2, "a 3"), came(6, 0, 2, "a 3"))
}

// P19.1: 256 are known at once, those that came too, and no more.
func TestGoOfTooMany(t *testing.T) {
	m := move.New()
	l := many(100, 256)
	for _, w := range l {
		goes(t, m, w.Move, w.From, w.To, w.Items, api.OK)
	}
	has(t, "full", m, l...)
	full := func() {
		t.Helper()
		goes(t, m, 7, 0, 2, list("a 1"), api.ErrFull)
		goes(t, m, 356, 0, 2, list("a 1"), api.ErrFull)
		goes(t, m, api.MaxOrder, 7, 6, goods(0, 16, most), api.ErrFull)
		// All else is refused ahead of that.
		goes(t, m, 100, 0, 2, list("a 1"), api.ErrTwice)
		goes(t, m, 355, 0, 2, list("a 1"), api.ErrTwice)
		goes(t, m, 7, 0, 2, nil, api.ErrItems)
		goes(t, m, 7, 0, 2, list("a 0"), api.ErrItems)
		goes(t, m, 0, 0, 2, list("a 1"), api.ErrArg)
		goes(t, m, 7, 2, 2, list("a 1"), api.ErrArg)
		goes(t, m, 7, 0, 8, list("a 1"), api.ErrArg)
	}
	full()
	comes(t, m, 200, list("a 1"), api.OK)
	full()
	forgets(t, m, 201, api.ErrState)
	full()
	forgets(t, m, 200, api.OK)
	goes(t, m, 200, 3, 1, list("b 2"), api.OK)
	full()
	l[100] = under(200, 3, 1, "b 2")
	has(t, "full again", m, l...)
	comes(t, m, 100, list("a 1"), api.OK)
	forgets(t, m, 100, api.OK)
	goes(t, m, 7, 0, 2, list("a 1"), api.OK)
	l[0] = under(7, 0, 2, "a 1")
	has(t, "another one", m, l...)
	goes(t, m, 8, 0, 2, list("a 1"), api.ErrFull)
}

// P19.1
func TestCome(t *testing.T) {
	m := unpacked(t, under(1, 0, 2, "a 5, b 2"), under(2, 2, 0, "a 1"), came(3, 0, 2, "c 1"))
	comes(t, m, 1, list("a 5, b 2"), api.OK)
	has(t, "one", m, came(1, 0, 2, "a 5, b 2"), under(2, 2, 0, "a 1"), came(3, 0, 2, "c 1"))
	for _, number := range []int{1, 3, 1} {
		comes(t, m, number, nil, api.ErrTwice)
	}
	comes(t, m, 2, list("a 1"), api.OK)
	comes(t, m, 2, nil, api.ErrTwice)
	for _, number := range append(noMoves(), 4, 5, api.MaxOrder) {
		comes(t, m, number, nil, api.ErrNone)
	}
	has(t, "all", m, came(1, 0, 2, "a 5, b 2"), came(2, 2, 0, "a 1"), came(3, 0, 2, "c 1"))
}

// P19.1
func TestForget(t *testing.T) {
	m := unpacked(t, under(1, 0, 2, "a 5"), came(2, 0, 2, "b 5"), came(3, 0, 2, "c 5"))
	for _, number := range append(noMoves(), 4, 5, api.MaxOrder) {
		forgets(t, m, number, api.ErrNone)
	}
	forgets(t, m, 1, api.ErrState)
	has(t, "refused", m, under(1, 0, 2, "a 5"), came(2, 0, 2, "b 5"), came(3, 0, 2, "c 5"))
	forgets(t, m, 2, api.OK)
	has(t, "one less", m, under(1, 0, 2, "a 5"), came(3, 0, 2, "c 5"))
	forgets(t, m, 2, api.ErrNone)
	comes(t, m, 2, nil, api.ErrNone)
	comes(t, m, 1, list("a 5"), api.OK)
	forgets(t, m, 1, api.OK)
	forgets(t, m, 3, api.OK)
	has(t, "none", m)
}

// P19.1: a number that was forgotten is another move's.
func TestGoAgain(t *testing.T) {
	m := move.New()
	for round := range 3 {
		goes(t, m, 9, round, 7, list("a 5"), api.OK)
		has(t, "on its way", m, under(9, round, 7, "a 5"))
		comes(t, m, 9, list("a 5"), api.OK)
		goes(t, m, 9, round, 7, list("a 5"), api.ErrTwice)
		forgets(t, m, 9, api.OK)
	}
	has(t, "none", m)
}

// P19.1, P19.2, P19.4
func TestNilMoves(t *testing.T) {
	var m *move.Moves
	for _, number := range append(noMoves(), 1, 5, api.MaxOrder) {
		for _, way := range append(noWays(), [2]int{0, 1}, [2]int{7, 2}) {
			for _, l := range append(mayNots(), nil, list("a 1")) {
				if e := m.Go(number, way[0], way[1], l); e != api.ErrClosed {
					t.Error(number, way, l, e)
				}
			}
			if l := m.Under(way[0], way[1]); len(l) != 0 {
				t.Error(way, l)
			}
		}
		if l, e := m.Come(number); len(l) != 0 || e != api.ErrClosed {
			t.Error(number, l, e)
		}
		if e := m.Forget(number); e != api.ErrClosed {
			t.Error(number, e)
		}
		if w, known := m.Move(number); known || !same(w, api.Way{}) {
			t.Error(number, w, known)
		}
	}
	if l := slices.Collect(m.All()); len(l) != 0 || m.Len() != 0 || len(m.Pack()) != 0 {
		t.Error(l, m.Len(), m.Pack())
	}
}
