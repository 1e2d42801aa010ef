package parcel_test

import (
	"math/rand"
	"slices"
	"strconv"
	"testing"

	"entrepot/api"
	"entrepot/items"
	"entrepot/parcel"
)

// model is parcels reckoned plainly: of each order all that was done stands there, and is added up each time.
type model map[int]*story

type story struct {
	want    map[string]int
	shipped map[int]map[string]int
	back    []map[string]int
}

// counts are so many of each good.
func counts(l []api.Item, sign int) map[string]int {
	m := map[string]int{}
	for _, i := range l {
		m[i.Good] += sign * i.N
	}
	return m
}

// sums adds up, and leaves out what there is nothing of.
func sums(l ...map[string]int) map[string]int {
	all := map[string]int{}
	for _, m := range l {
		for good, n := range m {
			all[good] += n
		}
	}
	for good, n := range all {
		if n == 0 {
			delete(all, good)
		}
	}
	return all
}

// within is whether there is no more of any good than most has.
func within(l, most map[string]int) bool {
	for good, n := range l {
		if n > most[good] {
			return false
		}
	}
	return true
}

func (s *story) sent() map[string]int {
	var l []map[string]int
	for _, m := range s.shipped {
		l = append(l, m)
	}
	return sums(l...)
}

func (m model) open(order int, want []api.Item) api.Errno {
	switch {
	case order < 1 || order > 1<<40:
		return api.ErrArg
	case !items.May(want) || len(want) == 0:
		return api.ErrItems
	case m[order] != nil:
		return api.ErrTwice
	}
	m[order] = &story{want: counts(want, 1), shipped: map[int]map[string]int{}}
	return api.OK
}

func (m model) ship(order, region int, l []api.Item) api.Errno {
	s := m[order]
	switch {
	case region < 0 || region > 7:
		return api.ErrArg
	case s == nil:
		return api.ErrNone
	case !items.May(l):
		return api.ErrItems
	case s.shipped[region] != nil:
		return api.ErrTwice
	case !within(sums(s.sent(), counts(l, 1)), s.want):
		return api.ErrOver
	}
	s.shipped[region] = counts(l, 1)
	return api.OK
}

func (m model) back(order int, l []api.Item) api.Errno {
	s := m[order]
	switch {
	case s == nil:
		return api.ErrNone
	case !items.May(l):
		return api.ErrItems
	case !within(sums(append(s.back, counts(l, 1))...), s.sent()):
		return api.ErrOver
	}
	s.back = append(s.back, counts(l, 1))
	return api.OK
}

func (m model) undo(order int, l []api.Item) api.Errno {
	s := m[order]
	switch {
	case s == nil:
		return api.ErrNone
	case !items.May(l):
		return api.ErrItems
	case !within(counts(l, 1), sums(s.back...)):
		return api.ErrLess
	}
	s.back = append(s.back, counts(l, -1))
	return api.OK
}

// listed puts goods in order.
func listed(m map[string]int) []api.Item {
	var l []api.Item
	for good, n := range m {
		l = append(l, api.Item{Good: good, N: n})
	}
	slices.SortFunc(l, func(a, b api.Item) int {
		if a.Good < b.Good {
			return -1
		}
		return 1
	})
	return l
}

func (m model) lines() []line {
	var l []line
	for order, s := range m {
		x := line{Parcel: api.Parcel{Order: order, Want: listed(s.want), Shipped: listed(s.sent()), Back: listed(sums(s.back...))}}
		for region := range s.shipped {
			x.from = append(x.from, region)
		}
		slices.Sort(x.from)
		l = append(l, x)
	}
	slices.SortFunc(l, func(a, b line) int { return a.Order - b.Order })
	return l
}

// call is something that parcels are told, and the model beside them: do both say the same?
type call func(p *parcel.Parcels, m model) bool

func opens(order int, l []api.Item) call {
	return func(p *parcel.Parcels, m model) bool { return p.Open(order, l) == m.open(order, l) }
}

func ships(order, region int, l []api.Item) call {
	return func(p *parcel.Parcels, m model) bool { return p.Ship(order, region, l) == m.ship(order, region, l) }
}

func backs(order int, l []api.Item) call {
	return func(p *parcel.Parcels, m model) bool { return p.Back(order, l) == m.back(order, l) }
}

func undoes(order int, l []api.Item) call {
	return func(p *parcel.Parcels, m model) bool { return p.Undo(order, l) == m.undo(order, l) }
}

// P17.1, P17.2, P17.4: all calls in every order, four behind one another, on parcels of nothing and of some.
func TestParcelsInEveryOrder(t *testing.T) {
	calls := []call{
		opens(1, list("a 2, b 1")), opens(2, list("a 1")), ships(1, 0, list("a 1")), ships(1, 1, list("a 1, b 1")), ships(1, 7, list("a 2")), ships(1, 2, nil),
		ships(2, 0, list("a 1")), backs(1, list("a 1")), backs(1, list("a 1, b 1")), backs(2, list("a 1")), undoes(1, list("a 1")), undoes(1, list("b 1")),
	}
	for _, first := range [][]call{nil, calls[:1], calls[:3], {calls[0], calls[3], calls[8]}, {calls[0], calls[2], calls[3], calls[7]}} {
		for n := range 12 * 12 * 12 * 12 {
			p, m := parcel.New(), model{}
			for _, c := range first {
				c(p, m)
			}
			left := n
			for range 4 {
				if !calls[left%12](p, m) {
					t.Fatal(n, left)
				}
				left /= 12
			}
			if !is(p, m.lines()...) {
				t.Fatalf("%d: %q, not %v", n, p.Pack(), m.lines())
			}
		}
	}
}

// anyList is mostly one that may be, of few goods.
func anyList(r *rand.Rand, most int) []api.Item {
	var l []api.Item
	for i := range 5 {
		if r.Intn(2) == 0 {
			l = append(l, api.Item{Good: "g" + strconv.Itoa(i), N: 1 + r.Intn(most)})
		}
	}
	if r.Intn(12) == 0 {
		return mayNots()[r.Intn(len(mayNots()))]
	}
	return l
}

// P17.1, P17.2, P17.4: many orders, and across codes.
func TestParcelsBesideAModel(t *testing.T) {
	r := rand.New(rand.NewSource(171))
	done := map[api.Errno]int{}
	for round := range 40 {
		p, m := parcel.New(), model{}
		orders := []int{3, 30}[round%2]
		for i := range 1000 {
			order, region := r.Intn(orders+1), r.Intn(10)-1
			wanted, some := anyList(r, 20), anyList(r, 6)
			l := []call{opens(order, wanted), ships(order, region, some), ships(order, region, some), backs(order, some), undoes(order, some)}
			if !l[r.Intn(len(l))](p, m) {
				t.Fatal(round, i)
			}
			done[p.Back(order, some)]++
			m.back(order, some)
			if i%10 == 0 && !is(p, m.lines()...) {
				t.Fatalf("%d, %d: %q, not %v", round, i, p.Pack(), m.lines())
			}
			if r.Intn(20) == 0 {
				again, e := parcel.Unpack(p.Pack())
				if e != api.OK {
					t.Fatal(round, i, e)
				}
				p = again
			}
		}
	}
	for _, e := range []api.Errno{api.OK, api.ErrNone, api.ErrItems, api.ErrOver} {
		if done[e] < 100 {
			t.Error("done:", done)
		}
	}
}

// fair is whether no more was shipped than is wanted, and no more is back than was shipped.
func fair(x api.Parcel) bool {
	for _, i := range slices.Concat(x.Shipped, x.Back) {
		n := items.Of(x.Shipped, i.Good)
		if n > items.Of(x.Want, i.Good) || items.Of(x.Back, i.Good) > n {
			return false
		}
	}
	return true
}

// P17.3: by what was answered OK alone.
func TestNoMoreThanIsWanted(t *testing.T) {
	r := rand.New(rand.NewSource(173))
	shipped, came := 0, 0
	for range 2000 {
		p := parcel.New()
		want := anyList(r, 9)
		if p.Open(1, want) != api.OK {
			continue
		}
		var sent, back int
		from := map[int]int{}
		for range 40 {
			// A list of one good at times, so that much of it is shipped.
			l, region := anyList(r, 4), r.Intn(8)
			if len(l) > 1 && r.Intn(2) == 0 {
				l = l[:1]
			}
			switch r.Intn(3) {
			case 0:
				if p.Ship(1, region, l) == api.OK {
					sent += items.Total(l)
					from[region]++
				}
			case 1:
				if p.Back(1, l) == api.OK {
					back += items.Total(l)
				}
			default:
				if p.Undo(1, l) == api.OK {
					back -= items.Total(l)
				}
			}
			x, _ := p.Parcel(1)
			if from[region] > 1 || !fair(x) || !slices.Equal(x.Want, want) || items.Total(x.Shipped) != sent || items.Total(x.Back) != back || items.Total(p.Left(1)) != sent-back {
				t.Fatal(x, sent, back, from)
			}
		}
		shipped += sent
		came += back
	}
	if shipped < 1000 || came < 200 {
		t.Error(shipped, came)
	}
}
