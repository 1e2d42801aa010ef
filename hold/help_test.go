package hold_test

import (
	"bytes"
	"slices"
	"testing"

	"entrepot/api"
	"entrepot/cells"
	"entrepot/hold"
	"entrepot/items"
	"entrepot/lists"
	"entrepot/stock"
)

const most = api.MaxCount

func list(s string) []api.Item {
	return lists.Of(s)
}

func item(good string, n int) []api.Item {
	return []api.Item{{Good: good, N: n}}
}

func goods(from, many, n int) []api.Item {
	return lists.Many(from, many, n)
}

// of is a hold by its lists, written as list has them.
func of(order int, held, picked, shipped string) api.Hold {
	return api.Hold{Order: order, Held: list(held), Picked: list(picked), Shipped: list(shipped)}
}

func same(a, b api.Hold) bool {
	return a.Order == b.Order && slices.Equal(a.Held, b.Held) && slices.Equal(a.Picked, b.Picked) && slices.Equal(a.Shipped, b.Shipped)
}

// good is a line of a stock's code: what is free, held, picked, and shipped already; so much was received as that needs.
type good struct {
	name                        string
	free, held, picked, shipped int
}

// stockCode is put down as chapter 7 tells it.
func stockCode(l ...good) []byte {
	b := cells.Num(len(l))
	for _, g := range l {
		b = append(append(b, cells.Num(len(g.name))...), g.name...)
		for _, n := range []int{g.free, g.held, g.picked, 0, g.free + g.held + g.picked + g.shipped, 0, 0, 0, g.shipped, 0, 0} {
			b = append(b, cells.Num(n)...)
		}
	}
	return b
}

// code is put down as the chapter tells it, with whatever holds, however long.
func code(stock []byte, l ...api.Hold) []byte {
	b := append(cells.Num(len(stock)), stock...)
	b = append(b, cells.Num(len(l))...)
	for _, h := range l {
		b = append(b, cells.Num(h.Order)...)
		for _, part := range [][]api.Item{h.Held, h.Picked, h.Shipped} {
			b = append(b, cells.Num(len(part))...)
			for _, i := range part {
				b = append(append(b, cells.Num(len(i.Good))...), i.Good...)
				b = append(b, cells.Num(i.N)...)
			}
		}
	}
	return b
}

func unpacked(t *testing.T, stock []byte, l ...api.Hold) *hold.Shelf {
	t.Helper()
	s, e := hold.Unpack(code(stock, l...))
	if e != api.OK {
		t.Fatal("Unpack:", l, e)
	}
	return s
}

// shelf has 10 of each of a, b and c free, and nothing else.
func shelf(t *testing.T) *hold.Shelf {
	t.Helper()
	s := hold.New()
	if e := s.Do(api.DoReceive, list("a 10, b 10, c 10")); e != api.OK {
		t.Fatal(e)
	}
	return s
}

// has looks whether a shelf has just these holds, by all its calls, and is sound.
func has(t *testing.T, name string, s *hold.Shelf, l ...api.Hold) {
	t.Helper()
	var orders []api.Hold
	for h := range s.Orders() {
		orders = append(orders, h)
	}
	if !slices.EqualFunc(orders, l, same) {
		t.Errorf("%s: holds %v, not %v", name, orders, l)
	}
	for _, h := range l {
		if x := s.Hold(h.Order); !same(x, h) {
			t.Errorf("%s: hold %v, not %v", name, x, h)
		}
	}
	if b := s.Pack(); !bytes.Equal(b, code(s.Stock().Pack(), l...)) {
		t.Errorf("%s: code %x", name, b)
	}
	if !s.Sound() || !sums(s.Stock(), orders) {
		t.Errorf("%s: not sound", name)
	}
}

// sums is whether these holds are together what a stock has held and picked.
func sums(s *stock.Stock, l []api.Hold) bool {
	known := slices.Collect(s.Goods())
	for _, h := range l {
		for _, i := range slices.Concat(h.Held, h.Picked) {
			if !slices.Contains(known, i.Good) {
				return false
			}
		}
	}
	for _, good := range known {
		level := s.Level(good)
		for _, h := range l {
			level.Held -= items.Of(h.Held, good)
			level.Picked -= items.Of(h.Picked, good)
		}
		if level.Held != 0 || level.Picked != 0 {
			return false
		}
	}
	return true
}

// levels looks at goods' Free, Held, Picked, and how many were shipped.
func levels(t *testing.T, s *hold.Shelf, l ...good) {
	t.Helper()
	for _, g := range l {
		level, flow := s.Stock().Level(g.name), s.Stock().Flow(g.name)
		if level != (api.Level{Free: g.free, Held: g.held, Picked: g.picked}) || flow.Shipped != g.shipped {
			t.Errorf("%v: %v, %v", g, level, flow)
		}
	}
}

// call is one of the calls on an order.
type call func(order int) ([]api.Item, api.Errno)

// does looks what a call answers.
func does(t *testing.T, name string, f call, order int, want string) {
	t.Helper()
	if l, e := f(order); !slices.Equal(l, list(want)) || e != api.OK {
		t.Errorf("%s(%d) = %v, %d, not %s", name, order, l, e, want)
	}
}

// refuses looks whether a call is refused, and leaves the shelf as it was.
func refuses(t *testing.T, name string, s *hold.Shelf, f call, order int, want api.Errno) {
	t.Helper()
	before := s.Pack()
	if l, e := f(order); len(l) != 0 || e != want {
		t.Errorf("%s(%d) = %v, %d, not %d", name, order, l, e, want)
	}
	if !bytes.Equal(s.Pack(), before) {
		t.Errorf("%s(%d) was refused and changed something", name, order)
	}
}

func take(s *hold.Shelf, l []api.Item) call {
	return func(order int) ([]api.Item, api.Errno) { return s.Take(order, l) }
}
