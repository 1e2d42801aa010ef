package goods_test

import (
	"testing"

	"entrepot/api"
	"entrepot/cells"
	"entrepot/lists"
	"entrepot/stock"
)

func list(s string) []api.Item {
	return lists.Of(s)
}

// do does something with a stock that it must take.
func do(t *testing.T, s *stock.Stock, kind int, l string) {
	t.Helper()
	if e := s.Do(kind, list(l)); e != api.OK {
		t.Fatal(kind, l, e)
	}
}

// received is a stock that got this from outside.
func received(t *testing.T, l string) *stock.Stock {
	t.Helper()
	s := stock.New()
	do(t, s, api.DoReceive, l)
	return s
}

// row is all that a stock has of a good.
type row struct {
	good  string
	level api.Level
	flow  api.Flow
}

// of is a stock that has just this, put down as chapter 7 tells it.
func of(t *testing.T, rows ...row) *stock.Stock {
	t.Helper()
	m := cells.New().Num(len(rows))
	for _, r := range rows {
		m.Text(r.good)
		l, f := r.level, r.flow
		for _, n := range []int{l.Free, l.Held, l.Picked, l.Aside, f.Received, f.Returned, f.Counted, f.Came, f.Shipped, f.Scrapped, f.Sent} {
			m.Num(n)
		}
	}
	b, _ := m.Done()
	s, e := stock.Unpack(b)
	if e != api.OK {
		t.Fatal(rows, e)
	}
	return s
}

// numbers are a total's, but for Way: four of the level, seven of the flow.
func numbers(t *api.Total) []*int {
	l, f := &t.Level, &t.Flow
	return []*int{&l.Free, &l.Held, &l.Picked, &l.Aside, &f.Received, &f.Returned, &f.Counted, &f.Came, &f.Shipped, &f.Scrapped, &f.Sent}
}

// names are those of numbers.
func names() []string {
	return []string{"Free", "Held", "Picked", "Aside", "Received", "Returned", "Counted", "Came", "Shipped", "Scrapped", "Sent"}
}
