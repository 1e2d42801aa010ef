package stock_test

import (
	"math"
	"slices"
	"testing"

	"entrepot/api"
	"entrepot/stock"
)

// P7.2
func TestLevelAndFlowOfNoGood(t *testing.T) {
	s := unpacked(t, some("a"))
	for _, good := range []string{"", "b", "A", "aa", "abcdefghijklmnopqrst"} {
		if l, f := s.Level(good), s.Flow(good); l != (api.Level{}) || f != (api.Flow{}) {
			t.Errorf("of %q: %v, %v", good, l, f)
		}
	}
	has(t, "looked at", s, some("a"))
}

// P7.2
func TestOffer(t *testing.T) {
	none := row{good: "n"}.with(held, 3, picked, 3, aside, 3, received, 9)
	s := unpacked(t, plain("a", 5), some("b"), plain("c", 1), none)
	for _, c := range []struct{ l, want string }{
		{"", ""},
		{"a 3", "a 3"},
		{"a 5", "a 5"},
		{"a 6", "a 5"},
		{"n 1", ""},
		{"z 1", ""},
		{"a 7, b 1000, c 1, n 9, z 4", "a 5, b 10, c 1"},
		{"0 1, a 1, aa 1, b 9, d 1", "a 1, b 9"},
	} {
		if l := s.Offer(list(c.l)); !slices.Equal(l, list(c.want)) {
			t.Errorf("Offer(%s) = %v", c.l, l)
		}
	}
	for _, l := range [][]api.Item{list("b 1, a 1"), list("a 1, a 1"), list("a 0"), list("a -1"), list("a 1, b 0"), item("a", most+1), list("A 1, a 1"), goods(0, 17, 1), {{}}} {
		if x := s.Offer(l); len(x) != 0 {
			t.Errorf("Offer(%v) = %v", l, x)
		}
	}
	if l := s.Offer(item("a", most)); !slices.Equal(l, list("a 5")) {
		t.Error(l)
	}
	has(t, "offered", s, plain("a", 5), some("b"), plain("c", 1), none)
}

// P7.2: of a stock with more goods than a list has.
func TestOfferOfManyGoods(t *testing.T) {
	s := full(t)
	if l := s.Offer(goods(40, 16, 7)); !slices.Equal(l, goods(40, 16, 5)) {
		t.Error(l)
	}
	if l := s.Offer(goods(60, 16, 3)); !slices.Equal(l, goods(60, 4, 3)) {
		t.Error(l)
	}
}

// R3: what is offered is new.
func TestOfferSharesNothing(t *testing.T) {
	s := unpacked(t, plain("a", 5), plain("b", 5))
	l := list("a 3, b 9, c 1")
	first, second := s.Offer(l[:2]), s.Offer(l[:2])
	clear(first[:cap(first)])
	if !slices.Equal(second, list("a 3, b 5")) || !slices.Equal(l, list("a 3, b 9, c 1")) {
		t.Error(second, l)
	}
	has(t, "offered", s, plain("a", 5), plain("b", 5))
}

// P7.2, R5
func TestGoods(t *testing.T) {
	s := stock.New()
	all := s.Goods()
	for good := range all {
		t.Error(good)
	}
	for _, l := range []string{"b 1", "a 1, z 1", "- 1, 0 1, aa 1"} {
		s.Do(api.DoReceive, list(l))
	}
	want := []string{"-", "0", "a", "aa", "b", "z"}
	for range 20 {
		if l := slices.Collect(all); !slices.Equal(l, want) {
			t.Fatal(l)
		}
	}
	for i := range want {
		var l []string
		for good := range all {
			l = append(l, good)
			if len(l) > i {
				break
			}
		}
		if !slices.Equal(l, want[:i+1]) {
			t.Error("stopped:", l)
		}
	}
	if l := slices.Collect(full(t).Goods()); len(l) != 64 || !slices.IsSorted(l) {
		t.Error(l)
	}
}

// P7.2
func TestFork(t *testing.T) {
	s := unpacked(t, some("a"), some("b"))
	f := s.Fork()
	has(t, "fork", f, some("a"), some("b"))
	f.Do(api.DoReceive, list("a 1, c 5"))
	f.Count("b", 25)
	has(t, "the first", s, some("a"), some("b"))
	s.Do(api.DoHold, list("a 4"))
	s.Do(api.DoCome, list("d 4"))
	has(t, "the fork", f, some("a").with(free, 1, received, 1), some("b").with(free, -5, counted, -5), plain("c", 5))
	has(t, "the first", s, some("a").with(free, -4, held, 4), some("b"), row{good: "d"}.with(free, 4, came, 4))
	f = stock.New().Fork()
	if e := f.Do(api.DoReceive, list("a 5")); e != api.OK {
		t.Error(e)
	}
	has(t, "of a new one", f, plain("a", 5))
}

// P7.2: each number has its place in the balance.
func TestBalanced(t *testing.T) {
	if !stock.Balanced(api.Level{}, api.Flow{}) || !stock.Balanced(some("a").level(), some("a").flow()) {
		t.Error("what is balanced")
	}
	// What is here, and what went, weighs against what came.
	weight := [numbers]int{1, 1, 1, 1, -1, -1, -1, -1, 1, 1, 1}
	for i := range numbers {
		for j := range numbers {
			for _, n := range []int{-2, -1, 0, 1, 2} {
				r := some("a").with(i, 1, j, n)
				want := weight[i]+n*weight[j] == 0
				if stock.Balanced(r.level(), r.flow()) != want {
					t.Errorf("1 more of number %d, %d more of number %d: %v", i, n, j, !want)
				}
			}
		}
	}
}

// P7.2: within bounds; where the sum of the level is no count, it may be balanced still.
func TestBalancedWithinBounds(t *testing.T) {
	for _, c := range []struct {
		n    []int
		want bool
	}{
		{[]int{free, most, received, most}, true},
		{[]int{free, most, held, most, picked, most, aside, most, received, 4 * most}, true},
		{[]int{free, most + 1, received, most + 1}, false},
		{[]int{held, most + 1, received, most + 1}, false},
		{[]int{picked, most + 1, received, most + 1}, false},
		{[]int{aside, most + 1, received, most + 1}, false},
		{[]int{free, -1, held, 1}, false},
		{[]int{free, 1, held, -1}, false},
		{[]int{free, 1, picked, -1}, false},
		{[]int{free, 1, aside, -1}, false},
		{[]int{received, mostFlow, shipped, mostFlow}, true},
		{[]int{returned, mostFlow, scrapped, mostFlow}, true},
		{[]int{came, mostFlow, sent, mostFlow}, true},
		{[]int{received, mostFlow + 1, shipped, mostFlow, sent, 1}, false},
		{[]int{returned, mostFlow + 1, shipped, mostFlow, sent, 1}, false},
		{[]int{came, mostFlow + 1, shipped, mostFlow, sent, 1}, false},
		{[]int{shipped, mostFlow + 1, received, mostFlow, came, 1}, false},
		{[]int{scrapped, mostFlow + 1, received, mostFlow, came, 1}, false},
		{[]int{sent, mostFlow + 1, received, mostFlow, came, 1}, false},
		{[]int{received, -1, came, 1}, false},
		{[]int{returned, -1, came, 1}, false},
		{[]int{came, -1, returned, 1}, false},
		{[]int{shipped, -1, sent, 1}, false},
		{[]int{scrapped, -1, sent, 1}, false},
		{[]int{sent, -1, shipped, 1}, false},
		{[]int{counted, -3 * mostFlow, received, mostFlow, returned, mostFlow, came, mostFlow}, true},
		{[]int{counted, 3 * mostFlow, shipped, mostFlow, scrapped, mostFlow, sent, mostFlow}, true},
		{[]int{counted, 1<<59 + 1, shipped, mostFlow}, false},
		{[]int{counted, -1<<59 - 1, received, mostFlow}, false},
		{[]int{counted, math.MaxInt}, false},
		{[]int{counted, math.MinInt}, false},
		// As ints go round, these would be balanced.
		{[]int{received, math.MinInt, sent, math.MinInt}, false},
		{[]int{free, math.MaxInt, received, math.MaxInt}, false},
		{[]int{free, 1 << 40, received, math.MinInt, counted, math.MinInt, returned, 1 << 40}, false},
		{[]int{received, 1 << 62, returned, 1 << 62, came, 1 << 62, counted, 1 << 62}, false},
		{[]int{received, math.MaxInt, came, 1, shipped, math.MaxInt, sent, 1}, false},
	} {
		r := row{}.with(c.n...)
		if stock.Balanced(r.level(), r.flow()) != c.want {
			t.Errorf("%v, %v: %v", r.level(), r.flow(), !c.want)
		}
	}
}

// P7.2
func TestNilStock(t *testing.T) {
	var s *stock.Stock
	for _, kind := range append(kinds(), 0, 12) {
		for _, l := range [][]api.Item{nil, list("a 1"), list("A 1")} {
			if e := s.Do(kind, l); e != api.ErrClosed {
				t.Error(kind, e)
			}
		}
	}
	for _, n := range []int{-1, 0, 5} {
		if n, e := s.Count("a", n); n != 0 || e != api.ErrClosed {
			t.Error(n, e)
		}
	}
	if s.Level("a") != (api.Level{}) || s.Flow("a") != (api.Flow{}) || len(s.Offer(list("a 1"))) != 0 || len(s.Pack()) != 0 || s.Fork() != nil {
		t.Error("something of nothing")
	}
	for good := range s.Goods() {
		t.Error(good)
	}
}
