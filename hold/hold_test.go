package hold_test

import (
	"math"
	"slices"
	"testing"

	"entrepot/api"
	"entrepot/hold"
)

// noOrders are numbers that no order has.
func noOrders() []int {
	return []int{0, -1, api.MaxOrder + 1, math.MinInt, math.MaxInt}
}

// P8.1: what is free is held, besides what is.
func TestTake(t *testing.T) {
	s := shelf(t)
	does(t, "Take", take(s, list("a 3, b 4")), 5, "a 3, b 4")
	has(t, "one", s, of(5, "a 3, b 4", "", ""))
	does(t, "Take", take(s, list("a 2, c 20")), 5, "a 2, c 10")
	does(t, "Take", take(s, list("a 9, b 1, c 1, z 1")), 2, "a 5, b 1")
	has(t, "two", s, of(2, "a 5, b 1", "", ""), of(5, "a 5, b 4, c 10", "", ""))
	levels(t, s, good{"a", 0, 10, 0, 0}, good{"b", 5, 5, 0, 0}, good{"c", 0, 10, 0, 0})
	does(t, "Take", take(s, list("a 1, c 1")), 5, "")
	does(t, "Take", take(s, nil), 5, "")
	does(t, "Take", take(s, list("a 1, c 1, z 1")), 7, "")
	does(t, "Take", take(s, nil), 7, "")
	has(t, "nothing is free", s, of(2, "a 5, b 1", "", ""), of(5, "a 5, b 4, c 10", "", ""))
}

// P8.1: the least order, and the greatest one.
func TestOrders(t *testing.T) {
	s := shelf(t)
	for _, order := range []int{1, api.MaxOrder} {
		does(t, "Take", take(s, list("a 1")), order, "a 1")
		does(t, "Pick", s.Pick, order, "a 1")
		does(t, "Unpick", s.Unpick, order, "a 1")
		does(t, "Free", s.Free, order, "a 1")
		does(t, "Take", take(s, list("b 2")), order, "b 2")
		does(t, "Pick", s.Pick, order, "b 2")
		does(t, "Ship", s.Ship, order, "b 2")
	}
	has(t, "both", s, of(1, "", "", "b 2"), of(api.MaxOrder, "", "", "b 2"))
}

// P8.1, R2
func TestTakeRefuses(t *testing.T) {
	wrong := [][]api.Item{list("a 0"), list("a -1"), item("a", most+1), list("b 1, a 1"), list("a 1, a 1"), list("A 1"), item("", 1), goods(0, 17, 1)}
	s := shelf(t)
	s.Take(1, list("a 1"))
	s.Take(2, list("a 1"))
	s.Pick(2)
	s.Take(3, list("a 1"))
	s.Pick(3)
	s.Ship(3)
	for _, order := range noOrders() {
		for _, l := range append(wrong, list("a 1"), nil) {
			refuses(t, "Take", s, take(s, l), order, api.ErrArg)
		}
	}
	for _, order := range []int{1, 2, 3, 4} {
		for _, l := range wrong {
			refuses(t, "Take", s, take(s, l), order, api.ErrItems)
		}
	}
	for _, order := range []int{2, 3} {
		for _, l := range [][]api.Item{list("a 1"), list("z 1"), nil} {
			refuses(t, "Take", s, take(s, l), order, api.ErrState)
		}
	}
	// What was picked and is held again may be put together with more.
	does(t, "Unpick", s.Unpick, 2, "a 1")
	does(t, "Take", take(s, list("a 2")), 2, "a 2")
	has(t, "at last", s, of(1, "a 1", "", ""), of(2, "a 3", "", ""), of(3, "", "", "a 1"))
}

// P8.1: 256 orders, and no more.
func TestTakeOfManyOrders(t *testing.T) {
	s := hold.New()
	s.Do(api.DoReceive, list("a 300, b 5"))
	for order := 1; order <= 256; order++ {
		does(t, "Take", take(s, list("a 1")), 2*order, "a 1")
	}
	refuses(t, "Take", s, take(s, list("a 1")), 1, api.ErrFull)
	refuses(t, "Take", s, take(s, list("a 9, z 9")), 600, api.ErrFull)
	refuses(t, "Take", s, take(s, list("b 1, a 1")), 1, api.ErrItems)
	refuses(t, "Take", s, take(s, list("a 1")), 0, api.ErrArg)
	does(t, "Take, of nothing free", take(s, list("z 9")), 1, "")
	does(t, "Take of nothing", take(s, nil), 1, "")
	does(t, "Take, of one that is there", take(s, list("b 1")), 512, "b 1")
	does(t, "Pick", s.Pick, 2, "a 1")
	refuses(t, "Take", s, take(s, list("a 1")), 2, api.ErrState)
	does(t, "Ship", s.Ship, 2, "a 1")
	refuses(t, "Take", s, take(s, list("a 1")), 1, api.ErrFull)
	does(t, "Free", s.Free, 4, "a 1")
	does(t, "Take", take(s, list("a 1")), 1, "a 1")
	refuses(t, "Take", s, take(s, list("a 1")), 4, api.ErrFull)
	if !s.Sound() || s.Stock().Level("a") != (api.Level{Free: 44, Held: 255}) {
		t.Error(s.Stock().Level("a"))
	}
}

// P8.1, R2
func TestFree(t *testing.T) {
	s := shelf(t)
	s.Take(1, list("a 3, b 1"))
	s.Take(2, list("a 4"))
	does(t, "Free", s.Free, 1, "a 3, b 1")
	has(t, "freed", s, of(2, "a 4", "", ""))
	levels(t, s, good{"a", 6, 4, 0, 0}, good{"b", 10, 0, 0, 0})
	refuses(t, "Free", s, s.Free, 1, api.ErrNone)
	refuses(t, "Free", s, s.Free, 3, api.ErrNone)
	s.Pick(2)
	refuses(t, "Free", s, s.Free, 2, api.ErrState)
	s.Ship(2)
	refuses(t, "Free", s, s.Free, 2, api.ErrNone)
	has(t, "shipped", s, of(2, "", "", "a 4"))
}

// P8.1
func TestPickUnpickShip(t *testing.T) {
	s := shelf(t)
	s.Take(1, list("a 3, b 1"))
	s.Take(2, list("a 4"))
	refuses(t, "Unpick", s, s.Unpick, 1, api.ErrNone)
	refuses(t, "Ship", s, s.Ship, 1, api.ErrNone)
	does(t, "Pick", s.Pick, 1, "a 3, b 1")
	has(t, "picked", s, of(1, "", "a 3, b 1", ""), of(2, "a 4", "", ""))
	levels(t, s, good{"a", 3, 4, 3, 0}, good{"b", 9, 0, 1, 0})
	refuses(t, "Pick", s, s.Pick, 1, api.ErrNone)
	does(t, "Unpick", s.Unpick, 1, "a 3, b 1")
	has(t, "held again", s, of(1, "a 3, b 1", "", ""), of(2, "a 4", "", ""))
	levels(t, s, good{"a", 3, 7, 0, 0}, good{"b", 9, 1, 0, 0})
	does(t, "Pick", s.Pick, 1, "a 3, b 1")
	does(t, "Ship", s.Ship, 1, "a 3, b 1")
	has(t, "shipped", s, of(1, "", "", "a 3, b 1"), of(2, "a 4", "", ""))
	levels(t, s, good{"a", 3, 4, 0, 3}, good{"b", 9, 0, 0, 1})
	for name, f := range map[string]call{"Pick": s.Pick, "Unpick": s.Unpick, "Ship": s.Ship, "Free": s.Free} {
		refuses(t, name, s, f, 1, api.ErrNone)
		refuses(t, name, s, f, 3, api.ErrNone)
		for _, order := range noOrders() {
			refuses(t, name, s, f, order, api.ErrArg)
		}
	}
}

// mixed has all three lists of order 7, and some of order 9.
func mixed(t *testing.T) *hold.Shelf {
	t.Helper()
	return unpacked(t, stockCode(good{"a", 4, 3, 5, 9}, good{"b", 0, 1, 2, 0}, good{"c", 1, 0, 6, 1}), of(7, "a 2, b 1", "a 5, c 6", "a 9, c 1"), of(9, "a 1", "b 2", ""))
}

// P8.1: an order of which something is held, picked and shipped.
func TestPartsAreGoneOnSeparately(t *testing.T) {
	s := mixed(t)
	other := of(9, "a 1", "b 2", "")
	refuses(t, "Free", s, s.Free, 7, api.ErrState)
	refuses(t, "Take", s, take(s, list("a 1")), 7, api.ErrState)
	refuses(t, "Take", s, take(s, list("a 1")), 9, api.ErrState)
	does(t, "Pick", s.Pick, 7, "a 2, b 1")
	has(t, "picked", s, of(7, "", "a 7, b 1, c 6", "a 9, c 1"), other)

	s = mixed(t)
	does(t, "Unpick", s.Unpick, 7, "a 5, c 6")
	has(t, "held", s, of(7, "a 7, b 1, c 6", "", "a 9, c 1"), other)
	refuses(t, "Take", s, take(s, list("a 1")), 7, api.ErrState)
	does(t, "Free", s.Free, 7, "a 7, b 1, c 6")
	has(t, "freed", s, of(7, "", "", "a 9, c 1"), other)
	levels(t, s, good{"a", 11, 1, 0, 9}, good{"b", 1, 0, 2, 0}, good{"c", 7, 0, 0, 1})

	s = mixed(t)
	does(t, "Ship", s.Ship, 7, "a 5, c 6")
	has(t, "shipped", s, of(7, "a 2, b 1", "", "a 14, c 7"), other)
	levels(t, s, good{"a", 4, 3, 0, 14}, good{"b", 0, 1, 2, 0}, good{"c", 1, 0, 0, 7})
	refuses(t, "Ship", s, s.Ship, 7, api.ErrNone)
	does(t, "Free", s.Free, 7, "a 2, b 1")
	has(t, "freed", s, of(7, "", "", "a 14, c 7"), other)
	does(t, "Ship", s.Ship, 9, "b 2")
	has(t, "shipped", s, of(7, "", "", "a 14, c 7"), of(9, "a 1", "", "b 2"))
}

// wide is a stock of 32 goods, of each 1 held, 1 picked, 2 free.
func wide() []byte {
	var l []good
	for _, i := range goods(0, 32, 1) {
		l = append(l, good{i.Good, 2, 1, 1, 1})
	}
	return stockCode(l...)
}

// P8.1: a list that would have more than 16 goods.
func TestListsThatWouldBeTooLong(t *testing.T) {
	first, second, both := goods(0, 16, 1), goods(16, 16, 1), goods(8, 16, 1)
	one := api.Hold{Order: 1, Held: first, Picked: second, Shipped: both}
	s := unpacked(t, wide(), one, api.Hold{Order: 2, Held: second, Picked: first, Shipped: second})
	for _, order := range []int{1, 2} {
		refuses(t, "Pick", s, s.Pick, order, api.ErrLong)
		refuses(t, "Unpick", s, s.Unpick, order, api.ErrLong)
		refuses(t, "Ship", s, s.Ship, order, api.ErrLong)
	}
	s = unpacked(t, wide(), api.Hold{Order: 1, Held: first}, api.Hold{Order: 2, Held: second}, api.Hold{Order: 3, Picked: first}, api.Hold{Order: 4, Picked: second})
	refuses(t, "Take", s, take(s, item("g116", 1)), 1, api.ErrLong)
	refuses(t, "Take", s, take(s, second), 1, api.ErrLong)
	refuses(t, "Take", s, take(s, goods(15, 2, 1)), 1, api.ErrLong)
	does(t, "Take of what is not free", take(s, list("z 1")), 1, "")
	if l, e := s.Take(1, goods(0, 16, 3)); !slices.Equal(l, goods(0, 16, 2)) || e != api.OK {
		t.Error("Take of the same goods:", l, e)
	}
	has(t, "taken", s, api.Hold{Order: 1, Held: goods(0, 16, 3)}, api.Hold{Order: 2, Held: second}, api.Hold{Order: 3, Picked: first}, api.Hold{Order: 4, Picked: second})
}

// P8.1: more shipped of a good than a list may have, or than the stock's flow.
func TestShipOfTooMuch(t *testing.T) {
	s := unpacked(t, stockCode(good{"a", 0, 0, 5, most}), api.Hold{Order: 1, Picked: list("a 4"), Shipped: item("a", most-3)}, of(2, "", "a 1", ""))
	refuses(t, "Ship", s, s.Ship, 1, api.ErrOver)
	does(t, "Ship", s.Ship, 2, "a 1")
	s = unpacked(t, stockCode(good{"a", 0, 0, 4, most}), api.Hold{Order: 1, Picked: list("a 4"), Shipped: item("a", most-4)})
	does(t, "Ship", s.Ship, 1, "a 4")
	has(t, "as much as may be", s, api.Hold{Order: 1, Shipped: item("a", most)})

	flow := stockCode(good{"a", 0, 0, 5, api.MaxFlow - 5}, good{"b", 0, 0, 9, 0})
	s = unpacked(t, flow, of(1, "", "a 2, b 3", ""), of(2, "", "a 3", ""), of(3, "", "b 6", ""))
	does(t, "Ship", s.Ship, 1, "a 2, b 3")
	does(t, "Ship", s.Ship, 2, "a 3")
	flow = stockCode(good{"a", 0, 0, 0, api.MaxFlow})
	s = unpacked(t, flow)
	if n, e := s.Count("a", 9); n != 9 || e != api.OK {
		t.Fatal(n, e)
	}
	does(t, "Take", take(s, list("a 5")), 1, "a 5")
	does(t, "Pick", s.Pick, 1, "a 5")
	refuses(t, "Ship", s, s.Ship, 1, api.ErrOver)
	does(t, "Unpick", s.Unpick, 1, "a 5")
	does(t, "Free", s.Free, 1, "a 5")
	has(t, "freed", s)
}

// P8.2
func TestDo(t *testing.T) {
	s := shelf(t)
	s.Take(1, list("a 3"))
	s.Take(2, list("b 3"))
	s.Pick(2)
	for _, c := range []struct {
		kind int
		l    string
		want api.Level
	}{
		{api.DoReceive, "a 5", api.Level{Free: 12, Held: 3}},
		{api.DoReturn, "a 4", api.Level{Free: 12, Held: 3, Aside: 4}},
		{api.DoRestock, "a 3", api.Level{Free: 15, Held: 3, Aside: 1}},
		{api.DoScrap, "a 1", api.Level{Free: 15, Held: 3}},
		{api.DoSend, "a 9", api.Level{Free: 6, Held: 3}},
		{api.DoCome, "a 2", api.Level{Free: 8, Held: 3}},
	} {
		if e := s.Do(c.kind, list(c.l)); e != api.OK || s.Stock().Level("a") != c.want {
			t.Errorf("Do(%d, %s) = %d, %v", c.kind, c.l, e, s.Stock().Level("a"))
		}
	}
	if f := s.Stock().Flow("a"); f != (api.Flow{Received: 15, Returned: 4, Came: 2, Scrapped: 1, Sent: 9}) {
		t.Error(f)
	}
	has(t, "done", s, of(1, "a 3", "", ""), of(2, "", "b 3", ""))
	do := func(kind int, l []api.Item) call {
		return func(int) ([]api.Item, api.Errno) { return nil, s.Do(kind, l) }
	}
	for _, kind := range []int{api.DoHold, api.DoRelease, api.DoPick, api.DoUnpick, api.DoShip, 0, 12, -1, math.MinInt, math.MaxInt} {
		for _, l := range []string{"a 1", "b 1", "", "b 1, a 1", "z 1"} {
			refuses(t, "Do", s, do(kind, list(l)), kind, api.ErrArg)
		}
	}
	for _, c := range []struct {
		kind int
		l    []api.Item
		want api.Errno
	}{
		{api.DoSend, list("a 0"), api.ErrItems}, {api.DoSend, list("z 1"), api.ErrGood}, {api.DoSend, list("a 9"), api.ErrLess}, {api.DoScrap, list("a 1"), api.ErrLess},
		{api.DoRestock, list("a 1"), api.ErrLess}, {api.DoReceive, item("a", most), api.ErrOver}, {api.DoCome, item("a", most), api.ErrOver}, {api.DoReturn, item("a", most), api.ErrOver},
	} {
		refuses(t, "Do", s, do(c.kind, c.l), c.kind, c.want)
	}
}

// P8.2
func TestCount(t *testing.T) {
	s := shelf(t)
	s.Take(1, list("a 3"))
	if n, e := s.Count("a", 4); n != -6 || e != api.OK || s.Stock().Level("a") != (api.Level{Free: 1, Held: 3}) || s.Stock().Flow("a").Counted != -6 {
		t.Error(n, e, s.Stock().Level("a"))
	}
	count := func(good string, n int) call {
		return func(int) ([]api.Item, api.Errno) {
			more, e := s.Count(good, n)
			if more != 0 {
				t.Error("more:", more)
			}
			return nil, e
		}
	}
	refuses(t, "Count", s, count("a", 2), 2, api.ErrHeld)
	refuses(t, "Count", s, count("a", -1), -1, api.ErrArg)
	refuses(t, "Count", s, count("z", 2), 2, api.ErrGood)
	has(t, "counted", s, of(1, "a 3", "", ""))
}

// P8.3: what was taken and freed leaves it as it was.
func TestTakenAndFreedIsAsItWas(t *testing.T) {
	s := mixed(t)
	before := string(s.Pack())
	for _, l := range []string{"a 1", "a 9, b 9, c 9", "z 1"} {
		s.Take(3, list(l))
		s.Pick(3)
		s.Unpick(3)
		s.Free(3)
		if string(s.Pack()) != before {
			t.Errorf("%s: %x", l, s.Pack())
		}
	}
}

// The chapter's example.
func TestExample(t *testing.T) {
	s := hold.New()
	s.Do(api.DoReceive, list("a 5"))
	does(t, "Take", take(s, list("a 7")), 1, "a 5")
	does(t, "Free", s.Free, 1, "a 5")
	has(t, "example", s)
}
