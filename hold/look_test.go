package hold_test

import (
	"slices"
	"testing"

	"entrepot/api"
	"entrepot/hold"
)

// P8.2
func TestHoldOfNoOrder(t *testing.T) {
	s := mixed(t)
	for _, order := range append(noOrders(), 1, 8, api.MaxOrder) {
		if h := s.Hold(order); !same(h, api.Hold{Order: order}) {
			t.Errorf("Hold(%d) = %v", order, h)
		}
	}
	if h := s.Hold(7); !same(h, of(7, "a 2, b 1", "a 5, c 6", "a 9, c 1")) {
		t.Error(h)
	}
}

// P8.2, R5
func TestOrdersAreGoneOver(t *testing.T) {
	s := hold.New()
	all := s.Orders()
	for h := range all {
		t.Error(h)
	}
	s.Do(api.DoReceive, list("a 100"))
	var want []int
	for _, order := range []int{9, 3, 1 << 40, 200, 1} {
		s.Take(order, list("a 1"))
		want = append(want, order)
	}
	slices.Sort(want)
	for range 20 {
		var l []int
		for h := range all {
			if !same(h, of(h.Order, "a 1", "", "")) {
				t.Error(h)
			}
			l = append(l, h.Order)
		}
		if !slices.Equal(l, want) {
			t.Fatal(l)
		}
	}
	for i := range want {
		var l []int
		for h := range all {
			l = append(l, h.Order)
			if len(l) > i {
				break
			}
		}
		if !slices.Equal(l, want[:i+1]) {
			t.Error("stopped:", l)
		}
	}
	s.Free(3)
	if h := slices.Collect(all); len(h) != 4 {
		t.Error("behind Free:", h)
	}
}

// P8.2
func TestStockIsAnother(t *testing.T) {
	s := mixed(t)
	before := string(s.Pack())
	one, two := s.Stock(), s.Stock()
	if string(one.Pack()) != string(stockCode(good{"a", 4, 3, 5, 9}, good{"b", 0, 1, 2, 0}, good{"c", 1, 0, 6, 1})) {
		t.Error("not the same")
	}
	one.Do(api.DoHold, list("a 1"))
	one.Do(api.DoReceive, list("z 1"))
	if string(s.Pack()) != before || two.Level("a").Held != 3 || !s.Sound() {
		t.Error("the shelf changed with its answer")
	}
	s.Do(api.DoReceive, list("a 5"))
	if two.Level("a").Free != 4 {
		t.Error("the answer changed with the shelf")
	}
}

// ruin writes over lists, their spare room too.
func ruin(lists ...[]api.Item) {
	for _, l := range lists {
		l = l[:cap(l)]
		for i := range l {
			l[i] = api.Item{Good: "ruin", N: -1}
		}
	}
}

// R3: what is answered shares nothing with what the shelf keeps.
func TestAnswersAreNew(t *testing.T) {
	s := shelf(t)
	l := list("a 3, b 20, c 1")
	first, _ := s.Take(1, l[:2])
	if !slices.Equal(l, list("a 3, b 20, c 1")) {
		t.Error("the list was changed:", l)
	}
	ruin(first, l)
	second, _ := s.Take(1, list("c 1"))
	ruin(second)
	has(t, "taken", s, of(1, "a 3, b 10, c 1", "", ""))
	for _, f := range []call{s.Pick, s.Unpick, s.Pick} {
		l, _ := f(1)
		ruin(l)
	}
	has(t, "picked", s, of(1, "", "a 3, b 10, c 1", ""))
	shipped, _ := s.Ship(1)
	ruin(shipped)
	s.Take(2, list("a 1"))
	freed, _ := s.Free(2)
	ruin(freed)
	s.Take(2, list("a 1"))
	for range 2 {
		for h := range s.Orders() {
			ruin(h.Held, h.Picked, h.Shipped)
		}
		h := s.Hold(1)
		ruin(h.Held, h.Picked, h.Shipped)
		has(t, "shipped", s, of(1, "", "", "a 3, b 10, c 1"), of(2, "a 1", "", ""))
	}
	s = mixed(t)
	h := s.Hold(7)
	ruin(h.Held, h.Picked)
	if !slices.Equal(h.Shipped, list("a 9, c 1")) {
		t.Error("lists share something:", h.Shipped)
	}
	has(t, "mixed", s, of(7, "a 2, b 1", "a 5, c 6", "a 9, c 1"), of(9, "a 1", "b 2", ""))
}

// P8.2
func TestNilShelf(t *testing.T) {
	var s *hold.Shelf
	for _, order := range append(noOrders(), 1) {
		for name, f := range map[string]call{"Take": take(s, list("a 1")), "Take of a wrong list": take(s, list("A 1")), "Free": s.Free, "Pick": s.Pick, "Unpick": s.Unpick, "Ship": s.Ship} {
			if l, e := f(order); len(l) != 0 || e != api.ErrClosed {
				t.Errorf("%s(%d): %v, %d", name, order, l, e)
			}
		}
		if h := s.Hold(order); !same(h, api.Hold{}) {
			t.Error(h)
		}
	}
	for kind := range 13 {
		if e := s.Do(kind, list("a 1")); e != api.ErrClosed {
			t.Error(kind, e)
		}
	}
	if n, e := s.Count("a", -1); n != 0 || e != api.ErrClosed {
		t.Error(n, e)
	}
	if s.Stock() != nil || s.Sound() || len(s.Pack()) != 0 {
		t.Error("something of nothing")
	}
	for h := range s.Orders() {
		t.Error(h)
	}
}
