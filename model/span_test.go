package model_test

import (
	"math"
	"slices"
	"testing"

	"entrepot/api"
	"entrepot/asks"
	"entrepot/lists"
	"entrepot/model"
)

func spans(t *testing.T, kind int, good string, l []api.Ask, answers []api.Answer, least, most int) {
	t.Helper()
	if r := model.Span(kind, good, l, answers); r != (api.Range{Least: least, Most: most}) {
		t.Errorf("kind %d, %q, of %v, %v: %v, not %d to %d", kind, good, l, answers, r, least, most)
	}
}

// P25.2: the chapter's example.
func TestExample(t *testing.T) {
	l := []api.Ask{receive(1, "a 5"), receive(2, "a 3")}
	spans(t, api.AskReceive, "a", l, []api.Answer{answer(1, 1, api.OK)}, 5, 8)
}

// P25.2: what each kind moves, of each good.
func TestSpanOfKinds(t *testing.T) {
	moving := []int{api.AskReceive, api.AskReturn, api.AskRestock, api.AskScrap, api.AskMove}
	for _, a := range each() {
		for _, kind := range []int{math.MinInt, -1, 0, 1, 2, 3, 4, 5, 6, 7, 8, 9, 10, 11, 12, math.MaxInt} {
			for good, n := range map[string]int{"a": 5, "b": 1, "c": 0, "": 0, "A": 0} {
				if kind != a.Kind || !slices.Contains(moving, kind) {
					n = 0
				}
				l := []api.Ask{a}
				spans(t, kind, good, l, nil, 0, n)
				spans(t, kind, good, l, []api.Answer{answer(3, 2, api.OK)}, n, n)
				spans(t, kind, good, l, []api.Answer{answer(3, 2, api.ErrLess)}, 0, 0)
				spans(t, kind, good, l, []api.Answer{answer(3, 2, api.ErrClash)}, 0, n)
				spans(t, kind, good, l, []api.Answer{answer(2, 2, api.OK), answer(3, 1, api.ErrLess)}, 0, n)
			}
		}
	}
	for _, kind := range moving {
		spans(t, kind, "a", nil, nil, 0, 0)
		spans(t, kind, "a", nil, []api.Answer{answer(3, 2, api.OK)}, 0, 0)
	}
}

// P25.2: a group that is plain, and one that is not, by its answer.
func TestSpanOfGroups(t *testing.T) {
	five, three, seven := receive(1, "a 5"), receive(1, "a 3"), receive(1, "a 7, b 2")
	scrap := asks.Goods(api.AskScrap, 1, 1, 0, "a 9")
	for _, c := range []struct {
		l    []api.Ask
		sure int
		most int
	}{
		{[]api.Ask{five, five, five}, 5, 5},
		{[]api.Ask{five, three}, 0, 5},
		{[]api.Ask{three, five}, 0, 5},
		{[]api.Ask{three, seven, five}, 0, 7},
		{[]api.Ask{five, scrap}, 0, 5},
		{[]api.Ask{scrap, five, scrap}, 0, 5},
		{[]api.Ask{scrap, scrap}, 0, 0},
		{[]api.Ask{cancel(1, 1, 70), three}, 0, 3},
	} {
		for e, least := range map[api.Errno]int{api.OK: c.sure, api.ErrFull: 0, api.ErrClash: 0, api.ErrStale: 0} {
			spans(t, api.AskReceive, "a", c.l, []api.Answer{answer(1, 1, e)}, least, c.most)
			// What the other groups move comes on top.
			l := append(slices.Clone(c.l), receive(2, "a 100"), asks.Receive(2, 1, 5, "a 1000"), receive(3, "a 10000"))
			spans(t, api.AskReceive, "a", l, []api.Answer{answer(2, 1, api.OK), answer(1, 3, api.ErrLess), answer(1, 1, e)}, least+1000, c.most+1100)
		}
		spans(t, api.AskReceive, "a", c.l, nil, 0, c.most)
		spans(t, api.AskReceive, "a", c.l, []api.Answer{answer(1, 1, api.ErrWait)}, 0, 0)
	}
	// The first answer is the group's.
	l := []api.Ask{five}
	spans(t, api.AskReceive, "a", l, []api.Answer{answer(1, 1, api.ErrClash), answer(1, 1, api.OK)}, 0, 5)
	spans(t, api.AskReceive, "a", l, []api.Answer{answer(1, 1, api.OK), answer(1, 1, api.ErrLess)}, 5, 5)
	spans(t, api.AskReceive, "a", l, []api.Answer{answer(1, 1, api.ErrLess), answer(1, 1, api.OK)}, 0, 0)
}

// P25.2: a shipment moves the most that one of the requests that make its order has, whoever asks, wherever these stand.
func TestSpanOfShipments(t *testing.T) {
	first, second, third := asks.Order(3, 2, "a 5, b 1", 1), asks.Order(3, 2, "a 9", 1), asks.Order(3, 2, "b 4", 0)
	other := asks.Order(4, 2, "a 100", 1)
	s := ship(3, 7, 131)
	yes := []api.Answer{answer(3, 7, api.OK)}
	for _, c := range []struct {
		l    []api.Ask
		a, b int
	}{
		{[]api.Ask{s}, 0, 0},
		{[]api.Ask{s, other}, 0, 0},
		{[]api.Ask{first, s}, 5, 1},
		{[]api.Ask{s, first}, 5, 1},
		{[]api.Ask{first, second, s, third, other}, 9, 4},
		{[]api.Ask{s, third, second, first}, 9, 4},
		{[]api.Ask{first, s, s, first}, 5, 1},
		{[]api.Ask{first, asks.Order(3, 2, "a 7", 3), s}, 5, 1},
		// What makes no order has none, and what makes one is no shipment.
		{[]api.Ask{asks.Receive(3, 2, 0, "a 5"), s}, 0, 0},
		{[]api.Ask{first, ship(3, 7, 131)}, 5, 1},
	} {
		spans(t, api.AskShip, "a", c.l, nil, 0, c.a)
		spans(t, api.AskShip, "b", c.l, nil, 0, c.b)
		spans(t, api.AskShip, "a", c.l, yes, c.a, c.a)
		spans(t, api.AskShip, "b", c.l, yes, c.b, c.b)
		spans(t, api.AskShip, "a", c.l, []api.Answer{answer(3, 7, api.ErrState), answer(3, 2, api.OK)}, 0, 0)
		spans(t, api.AskOrder, "a", c.l, yes, 0, 0)
	}
	// Two groups ship the same order; one ships one of two.
	l := []api.Ask{first, second, other, s, ship(5, 1, 131), ship(4, 3, 132)}
	spans(t, api.AskShip, "a", l, []api.Answer{answer(5, 1, api.OK)}, 9, 118)
	l = append(l, ship(3, 7, 132))
	spans(t, api.AskShip, "a", l, []api.Answer{answer(3, 7, api.OK), answer(5, 1, api.ErrNone)}, 0, 200)
}

// P25.2: the greatest counts.
func TestSpanOfMuch(t *testing.T) {
	var l []api.Ask
	var answers []api.Answer
	for n := 1; n <= 1000; n++ {
		a := receive(n, "")
		a.Items = []api.Item{{Good: "a", N: api.MaxCount}}
		l = append(l, a)
		answers = append(answers, answer(1, n, api.Errno(4*(n%2))))
	}
	spans(t, api.AskReceive, "a", l, nil, 0, 1000*api.MaxCount)
	spans(t, api.AskReceive, "a", l, answers, 500*api.MaxCount, 500*api.MaxCount)
	a := receive(5, "")
	a.Items = lists.Many(0, 16, api.MaxCount)
	spans(t, api.AskReceive, "g115", []api.Ask{a}, []api.Answer{answer(1, 5, api.OK)}, api.MaxCount, api.MaxCount)
	spans(t, api.AskReceive, "g116", []api.Ask{a}, []api.Answer{answer(1, 5, api.OK)}, 0, 0)
}

// P25.2
func TestWithin(t *testing.T) {
	l := []int{math.MinInt, math.MinInt + 1, -5, -1, 0, 1, 2, 5, 8, math.MaxInt - 1, math.MaxInt}
	for _, n := range l {
		for _, least := range l {
			for _, most := range l {
				if is := model.Within(n, api.Range{Least: least, Most: most}); is != (least <= n && n <= most) {
					t.Error(n, least, most, is)
				}
			}
		}
	}
}
