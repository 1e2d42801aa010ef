package move_test

import (
	"math/rand"
	"slices"
	"strconv"
	"testing"

	"entrepot/api"
	"entrepot/items"
	"entrepot/move"
)

// model is moves reckoned plainly: those that are known, by rising numbers.
type model struct {
	ways []api.Way
}

func (m *model) find(number int) *api.Way {
	for i := range m.ways {
		if m.ways[i].Move == number {
			return &m.ways[i]
		}
	}
	return nil
}

func (m *model) goes(w api.Way) api.Errno {
	switch {
	case w.Move < 1 || w.Move > 1<<40, w.From < 0 || w.From > 7, w.To < 0 || w.To > 7, w.From == w.To:
		return api.ErrArg
	case !items.May(w.Items) || len(w.Items) == 0:
		return api.ErrItems
	case m.find(w.Move) != nil:
		return api.ErrTwice
	case len(m.ways) == 256:
		return api.ErrFull
	}
	m.ways = append(m.ways, w)
	slices.SortFunc(m.ways, func(a, b api.Way) int { return a.Move - b.Move })
	return api.OK
}

func (m *model) comes(number int) ([]api.Item, api.Errno) {
	w := m.find(number)
	switch {
	case w == nil:
		return nil, api.ErrNone
	case w.Came:
		return nil, api.ErrTwice
	}
	w.Came = true
	return w.Items, api.OK
}

func (m *model) forgets(number int) api.Errno {
	w := m.find(number)
	switch {
	case w == nil:
		return api.ErrNone
	case !w.Came:
		return api.ErrState
	}
	m.ways = slices.DeleteFunc(m.ways, func(w api.Way) bool { return w.Move == number })
	return api.OK
}

// call is something that moves are told, and the model beside them: what both answer, if that is the same.
type call func(m *move.Moves, plain *model) (api.Errno, bool)

func going(w api.Way) call {
	return func(m *move.Moves, plain *model) (api.Errno, bool) {
		e := m.Go(w.Move, w.From, w.To, w.Items)
		return e, e == plain.goes(w)
	}
}

func coming(number int) call {
	return func(m *move.Moves, plain *model) (api.Errno, bool) {
		l, e := m.Come(number)
		want, wantE := plain.comes(number)
		return e, e == wantE && slices.Equal(l, want)
	}
}

func forgetting(number int) call {
	return func(m *move.Moves, plain *model) (api.Errno, bool) {
		e := m.Forget(number)
		return e, e == plain.forgets(number)
	}
}

// P19.1, P19.2, P19.4: all calls in every order, four behind one another, on moves of nothing and of some.
func TestMovesInEveryOrder(t *testing.T) {
	calls := []call{
		going(under(1, 0, 2, "a 2, b 1")), going(under(2, 0, 2, "a 1")), going(under(3, 2, 0, "c 1")), going(under(2, 1, 0, "c 7")), going(under(1, 2, 2, "a 1")), going(under(3, 0, 2, "")),
		coming(1), coming(2), coming(3), forgetting(1), forgetting(2), forgetting(3),
	}
	for _, first := range [][]call{nil, calls[:1], calls[:3], {calls[0], calls[1], calls[6]}, {calls[0], calls[2], calls[6], calls[8]}} {
		for n := range 12 * 12 * 12 * 12 {
			m, plain := move.New(), &model{}
			for _, c := range first {
				c(m, plain)
			}
			left := n
			for range 4 {
				if _, same := calls[left%12](m, plain); !same {
					t.Fatal(n, left)
				}
				left /= 12
			}
			if !is(m, plain.ways...) {
				t.Fatalf("%d: %q, not %v", n, m.Pack(), plain.ways)
			}
		}
	}
}

// P19.1: all calls in every order, three behind one another, where 255 moves are known.
func TestNearlyFullInEveryOrder(t *testing.T) {
	calls := []call{
		going(under(1, 0, 2, "a 2")), going(under(2, 0, 2, "a 1")), going(under(1000, 0, 2, "a 1")), going(under(2, 2, 2, "a 1")), going(under(2, 0, 2, "")),
		coming(1), coming(1000), coming(2), forgetting(1), forgetting(1000), forgetting(2),
	}
	for n := range 11 * 11 * 11 {
		m, plain := unpacked(t, many(1000, 255)...), &model{ways: many(1000, 255)}
		left := n
		for range 3 {
			if _, same := calls[left%11](m, plain); !same {
				t.Fatal(n, left)
			}
			left /= 11
		}
		if m.Len() != len(plain.ways) || !slices.EqualFunc(slices.Collect(m.All()), plain.ways, same) {
			t.Fatalf("%d: %d, not %d", n, m.Len(), len(plain.ways))
		}
	}
}

// anyWay is mostly one that may be, of few goods, at times of the most of them.
func anyWay(r *rand.Rand, numbers int) api.Way {
	w := api.Way{Move: r.Intn(numbers + 1), From: r.Intn(3), To: r.Intn(3)}
	for i := range 5 {
		n := 1 + r.Intn(20)
		if r.Intn(8) == 0 {
			n = most - r.Intn(20)
		}
		if r.Intn(2) == 0 {
			w.Items = append(w.Items, api.Item{Good: "g" + strconv.Itoa(i), N: n})
		}
	}
	switch r.Intn(20) {
	case 0:
		w.Items = mayNots()[r.Intn(len(mayNots()))]
	case 1:
		w.Items = goods(r.Intn(10), 12, 1)
	case 2:
		way := noWays()[r.Intn(len(noWays()))]
		w.From, w.To = way[0], way[1]
	}
	return w
}

// P19.1, P19.2, P19.4: many moves, and across codes.
func TestMovesBesideAModel(t *testing.T) {
	r := rand.New(rand.NewSource(191))
	done := map[api.Errno]int{}
	for round := range 40 {
		m, plain := move.New(), &model{}
		numbers := []int{5, 60, 2000}[round%3]
		for i := range 1200 {
			calls := []call{going(anyWay(r, numbers)), going(anyWay(r, numbers)), going(anyWay(r, numbers)), coming(r.Intn(numbers + 2)), forgetting(r.Intn(numbers + 2))}
			e, same := calls[r.Intn(len(calls))](m, plain)
			if !same {
				t.Fatal(round, i, e)
			}
			done[e]++
			if i%40 == 0 && !is(m, plain.ways...) {
				t.Fatalf("%d, %d: %q, not %v", round, i, m.Pack(), plain.ways)
			}
			if r.Intn(20) == 0 {
				again, e := move.Unpack(m.Pack())
				if e != api.OK {
					t.Fatal(round, i, e)
				}
				m = again
			}
		}
	}
	for _, e := range []api.Errno{api.OK, api.ErrArg, api.ErrItems, api.ErrTwice, api.ErrFull, api.ErrNone, api.ErrState} {
		if done[e] < 100 {
			t.Error("done:", done)
		}
	}
}

// tally is so many of each good.
type tally map[string]int

func (c tally) add(l []api.Item, sign int) {
	for _, i := range l {
		c[i.Good] += sign * i.N
		if c[i.Good] == 0 {
			delete(c, i.Good)
		}
	}
}

// P19.3: by what was answered OK alone.
func TestEachComesOnce(t *testing.T) {
	r := rand.New(rand.NewSource(193))
	came := 0
	for range 300 {
		m := move.New()
		pairs := [][2]int{{0, 1}, {1, 0}, {0, 2}}
		way := map[[2]int]tally{pairs[0]: {}, pairs[1]: {}, pairs[2]: {}}
		of := map[int][2]int{}
		// Of each number, how often it went and did not come.
		open := map[int]int{}
		for range 300 {
			number := 1 + r.Intn(20)
			switch r.Intn(4) {
			case 0:
				l, pair := list("a "+strconv.Itoa(1+r.Intn(9))+", b 1"), pairs[r.Intn(3)]
				if m.Go(number, pair[0], pair[1], l) == api.OK {
					open[number]++
					of[number] = pair
					way[pair].add(l, 1)
				}
			case 1, 2:
				if l, e := m.Come(number); e == api.OK {
					came++
					open[number]--
					way[of[number]].add(l, -1)
				}
			default:
				m.Forget(number)
			}
			if open[number] < 0 || open[number] > 1 {
				t.Fatalf("%d came or went twice", number)
			}
			for _, pair := range pairs {
				if l := m.Under(pair[0], pair[1]); !slices.Equal(l, listed(way[pair])) {
					t.Fatalf("%v: %v, not %v", pair, l, way[pair])
				}
			}
		}
	}
	if came < 5000 {
		t.Error("came:", came)
	}
}
