package stock_test

import (
	"bytes"
	"slices"
	"testing"

	"entrepot/api"
	"entrepot/cells"
	"entrepot/lists"
	"entrepot/stock"
)

const (
	most     = api.MaxCount
	mostFlow = api.MaxFlow
)

// Places of a row's numbers, in the order of the code.
const (
	free = iota
	held
	picked
	aside
	received
	returned
	counted
	came
	shipped
	scrapped
	sent
	numbers
)

// row is a good with all that a stock has of it.
type row struct {
	good string
	n    [numbers]int
}

// with is the row with some numbers (place, number, place, number, ..) more.
func (r row) with(more ...int) row {
	for i := 0; i < len(more); i += 2 {
		r.n[more[i]] += more[i+1]
	}
	return r
}

func (r row) level() api.Level {
	return api.Level{Free: r.n[free], Held: r.n[held], Picked: r.n[picked], Aside: r.n[aside]}
}

func (r row) flow() api.Flow {
	return api.Flow{Received: r.n[received], Returned: r.n[returned], Counted: r.n[counted], Came: r.n[came], Shipped: r.n[shipped], Scrapped: r.n[scrapped], Sent: r.n[sent]}
}

// some has each number unlike all others, and is balanced.
func some(good string) row {
	return row{good, [numbers]int{free: 10, held: 20, picked: 30, aside: 40, received: 1000, returned: 200, counted: -50, came: 60, shipped: 700, scrapped: 300, sent: 110}}
}

// plain is so many of a good that was received, and is free.
func plain(good string, n int) row {
	return row{good, [numbers]int{free: n, received: n}}
}

// code is put down as the chapter tells it, with whatever rows.
func code(t *testing.T, rows ...row) []byte {
	t.Helper()
	m := cells.New().Num(len(rows))
	for _, r := range rows {
		m.Text(r.good)
		for _, n := range r.n {
			m.Num(n)
		}
	}
	b, e := m.Done()
	if e != api.OK {
		t.Fatal(e)
	}
	return b
}

func unpacked(t *testing.T, rows ...row) *stock.Stock {
	t.Helper()
	s, e := stock.Unpack(code(t, rows...))
	if e != api.OK {
		t.Fatal("Unpack:", rows, e)
	}
	return s
}

// has looks whether a stock has just these rows, by all its calls.
func has(t *testing.T, name string, s *stock.Stock, rows ...row) {
	t.Helper()
	var goods []string
	for _, r := range rows {
		goods = append(goods, r.good)
		if l := s.Level(r.good); l != r.level() {
			t.Errorf("%s: level of %s: %v, not %v", name, r.good, l, r.level())
		}
		if f := s.Flow(r.good); f != r.flow() {
			t.Errorf("%s: flow of %s: %v, not %v", name, r.good, f, r.flow())
		}
		if !stock.Balanced(s.Level(r.good), s.Flow(r.good)) {
			t.Errorf("%s: %s is not balanced", name, r.good)
		}
	}
	if l := slices.Collect(s.Goods()); !slices.Equal(l, goods) {
		t.Errorf("%s: goods %v, not %v", name, l, goods)
	}
	if b := s.Pack(); !bytes.Equal(b, code(t, rows...)) {
		t.Errorf("%s: code %x", name, b)
	}
}

func list(s string) []api.Item {
	return lists.Of(s)
}

func item(good string, n int) []api.Item {
	return []api.Item{{Good: good, N: n}}
}

func goods(from, many, n int) []api.Item {
	return lists.Many(from, many, n)
}

// full has as many goods as a stock may have: g100 to g163, 5 of each.
func full(t *testing.T) *stock.Stock {
	t.Helper()
	s := stock.New()
	for i := range 4 {
		if e := s.Do(api.DoReceive, goods(16*i, 16, 5)); e != api.OK {
			t.Fatal(e)
		}
	}
	return s
}

// kinds are all that may be done with a list.
func kinds() []int {
	return []int{api.DoReceive, api.DoHold, api.DoRelease, api.DoPick, api.DoUnpick, api.DoShip, api.DoReturn, api.DoRestock, api.DoScrap, api.DoSend, api.DoCome}
}

// table is the chapter's: from, to, flow, by kinds; -1 where there is none.
func table(kind int) [3]int {
	return map[int][3]int{
		api.DoReceive: {-1, free, received},
		api.DoHold:    {free, held, -1},
		api.DoRelease: {held, free, -1},
		api.DoPick:    {held, picked, -1},
		api.DoUnpick:  {picked, held, -1},
		api.DoShip:    {picked, -1, shipped},
		api.DoReturn:  {-1, aside, returned},
		api.DoRestock: {aside, free, -1},
		api.DoScrap:   {aside, -1, scrapped},
		api.DoSend:    {free, -1, sent},
		api.DoCome:    {-1, free, came},
	}[kind]
}
