package parcel_test

import (
	"testing"

	"entrepot/api"
	"entrepot/parcel"
)

// P17.1
func TestOpen(t *testing.T) {
	p := parcel.New()
	has(t, "new", p)
	open(t, p, 5, list("a 3, b 1"), api.OK)
	has(t, "one", p, of(5, "a 3, b 1", "", ""))
	open(t, p, 1, list("c 2"), api.OK)
	open(t, p, api.MaxOrder, item("a", most), api.OK)
	open(t, p, 300, goods(0, 16, most), api.OK)
	full := line{Parcel: api.Parcel{Order: 300, Want: goods(0, 16, most)}}
	great := line{Parcel: api.Parcel{Order: api.MaxOrder, Want: item("a", most)}}
	has(t, "four", p, of(1, "c 2", "", ""), of(5, "a 3, b 1", "", ""), full, great)
}

// P17.1: each refusal beside all that come behind it.
func TestOpenRefuses(t *testing.T) {
	p := parcel.New()
	open(t, p, 5, list("a 3"), api.OK)
	ship(t, p, 5, 2, list("a 2"), api.OK)
	wrong := append(mayNots(), nil, []api.Item{})
	for _, order := range noOrders() {
		for _, want := range append(wrong, list("a 3")) {
			open(t, p, order, want, api.ErrArg)
		}
	}
	for _, order := range []int{5, 6, 1, api.MaxOrder} {
		for _, want := range wrong {
			open(t, p, order, want, api.ErrItems)
		}
	}
	for _, want := range []string{"a 3", "a 2", "b 1"} {
		open(t, p, 5, list(want), api.ErrTwice)
	}
	has(t, "refused", p, of(5, "a 3", "a 2", "", 2))
}

// P17.1: there is no limit to how many are open.
func TestOpenOfMany(t *testing.T) {
	p := parcel.New()
	for i := range 5000 {
		if e := p.Open(5000-i, list("a 3")); e != api.OK {
			t.Fatal(i, e)
		}
	}
	if p.Len() != 5000 {
		t.Error(p.Len())
	}
	last := 0
	for x := range p.All() {
		last++
		if !same(x, of(last, "a 3", "", "").Parcel) {
			t.Fatal(last, x)
		}
	}
}

// P17.1, the chapter's example.
func TestShip(t *testing.T) {
	p := parcel.New()
	open(t, p, 1, list("a 5"), api.OK)
	ship(t, p, 1, 0, list("a 3"), api.OK)
	ship(t, p, 1, 1, list("a 3"), api.ErrOver)
	has(t, "3 of 5", p, of(1, "a 5", "a 3", "", 0))
	// What was refused was not shipped from there.
	ship(t, p, 1, 1, list("a 2"), api.OK)
	has(t, "all", p, of(1, "a 5", "a 5", "", 0, 1))
}

// P17.1: each region once, in whatever order, all of them.
func TestShipFromAllRegions(t *testing.T) {
	p := parcel.New()
	open(t, p, 7, list("a 8, b 1"), api.OK)
	open(t, p, 8, list("a 8"), api.OK)
	for _, region := range []int{7, 0, 3, 5, 1, 6, 2, 4} {
		ship(t, p, 7, region, list("a 1"), api.OK)
		ship(t, p, 7, region, list("b 1"), api.ErrTwice)
	}
	has(t, "all", p, of(7, "a 8, b 1", "a 8", "", 0, 1, 2, 3, 4, 5, 6, 7), of(8, "a 8", "", ""))
}

// P17.1: nothing is a list that may be: it is shipped, once.
func TestShipOfNothing(t *testing.T) {
	p := parcel.New()
	open(t, p, 7, list("a 8"), api.OK)
	ship(t, p, 7, 3, nil, api.OK)
	has(t, "nothing", p, of(7, "a 8", "", "", 3))
	ship(t, p, 7, 3, list("a 1"), api.ErrTwice)
	ship(t, p, 7, 3, []api.Item{}, api.ErrTwice)
	ship(t, p, 7, 2, list("a 8"), api.OK)
	ship(t, p, 7, 4, []api.Item{}, api.OK)
	has(t, "all", p, of(7, "a 8", "a 8", "", 2, 3, 4))
}

// P17.1: each refusal beside all that come behind it.
func TestShipRefuses(t *testing.T) {
	p := parcel.New()
	open(t, p, 5, list("a 3, b 2"), api.OK)
	ship(t, p, 5, 2, list("a 2"), api.OK)
	over := [][]api.Item{list("a 2"), list("a 1, b 3"), list("a 1, b 2, c 1"), list("c 1"), item("a", most), goods(0, 16, 1)}
	lists := append(append(mayNots(), over...), nil, list("a 1"))
	absent := append(noOrders(), 1, 4, 6, api.MaxOrder)
	for _, l := range lists {
		for _, region := range noRegions() {
			for _, order := range append(absent, 5) {
				ship(t, p, order, region, l, api.ErrArg)
			}
		}
		for _, order := range absent {
			for region := range api.MaxRegions {
				ship(t, p, order, region, l, api.ErrNone)
			}
		}
	}
	for _, l := range mayNots() {
		ship(t, p, 5, 0, l, api.ErrItems)
		ship(t, p, 5, 2, l, api.ErrItems)
	}
	for _, l := range append(over, nil, list("a 1")) {
		ship(t, p, 5, 2, l, api.ErrTwice)
	}
	for _, l := range over {
		ship(t, p, 5, 0, l, api.ErrOver)
		ship(t, p, 5, 7, l, api.ErrOver)
	}
	has(t, "refused", p, of(5, "a 3, b 2", "a 2", "", 2))
	ship(t, p, 5, 7, list("a 1, b 2"), api.OK)
}

// P17.1: what would be no count, or too many goods, is more than is wanted too.
func TestShipOfTheMost(t *testing.T) {
	p := parcel.New()
	open(t, p, 1, item("a", most), api.OK)
	open(t, p, 2, goods(0, 16, 2), api.OK)
	ship(t, p, 1, 0, item("a", most), api.OK)
	ship(t, p, 1, 1, item("a", 1), api.ErrOver)
	ship(t, p, 1, 1, item("a", most), api.ErrOver)
	ship(t, p, 2, 0, goods(0, 16, 1), api.OK)
	ship(t, p, 2, 1, goods(16, 1, 1), api.ErrOver)
	ship(t, p, 2, 1, goods(1, 16, 1), api.ErrOver)
	ship(t, p, 2, 1, goods(0, 16, 1), api.OK)
	back(t, p, 1, item("a", most), api.OK)
	back(t, p, 1, item("a", 1), api.ErrOver)
	back(t, p, 2, goods(0, 16, 2), api.OK)
	back(t, p, 2, goods(16, 16, 1), api.ErrOver)
	all := line{api.Parcel{Order: 2, Want: goods(0, 16, 2), Shipped: goods(0, 16, 2), Back: goods(0, 16, 2)}, []int{0, 1}}
	has(t, "all", p, line{api.Parcel{Order: 1, Want: item("a", most), Shipped: item("a", most), Back: item("a", most)}, []int{0}}, all)
}

// P17.1
func TestBackAndUndo(t *testing.T) {
	p := unpacked(t, of(5, "a 9, b 4, c 1", "a 7, b 4", "", 1, 2), of(6, "a 9", "a 9", "", 0))
	six := of(6, "a 9", "a 9", "", 0)
	back(t, p, 5, list("a 3"), api.OK)
	has(t, "a", p, of(5, "a 9, b 4, c 1", "a 7, b 4", "a 3", 1, 2), six)
	back(t, p, 5, list("a 4, b 1"), api.OK)
	back(t, p, 5, nil, api.OK)
	has(t, "all of a", p, of(5, "a 9, b 4, c 1", "a 7, b 4", "a 7, b 1", 1, 2), six)
	back(t, p, 5, list("a 1"), api.ErrOver)
	undo(t, p, 5, list("a 2, b 1"), api.OK)
	undo(t, p, 5, nil, api.OK)
	has(t, "some is not back", p, of(5, "a 9, b 4, c 1", "a 7, b 4", "a 5", 1, 2), six)
	back(t, p, 5, list("a 1, b 4"), api.OK)
	undo(t, p, 5, list("a 6, b 4"), api.OK)
	has(t, "none is back", p, of(5, "a 9, b 4, c 1", "a 7, b 4", "", 1, 2), six)
	// What is back is shipped no second time.
	back(t, p, 6, list("a 9"), api.OK)
	ship(t, p, 6, 1, list("a 1"), api.ErrOver)
	has(t, "back", p, of(5, "a 9, b 4, c 1", "a 7, b 4", "", 1, 2), of(6, "a 9", "a 9", "a 9", 0))
}

// P17.1: each refusal beside all that come behind it.
func TestBackRefuses(t *testing.T) {
	p := unpacked(t, of(5, "a 9, b 4, c 1", "a 7, b 4", "a 2", 1))
	over := [][]api.Item{list("a 6"), list("a 5, b 5"), list("c 1"), list("a 1, c 1"), list("a 1, b 1, d 1"), item("a", most), goods(0, 16, 1)}
	for _, order := range append(noOrders(), 1, 4, 6, api.MaxOrder) {
		for _, l := range append(append(mayNots(), over...), nil, list("a 1")) {
			back(t, p, order, l, api.ErrNone)
		}
	}
	for _, l := range mayNots() {
		back(t, p, 5, l, api.ErrItems)
	}
	for _, l := range over {
		back(t, p, 5, l, api.ErrOver)
	}
	has(t, "refused", p, of(5, "a 9, b 4, c 1", "a 7, b 4", "a 2", 1))
	back(t, p, 5, list("a 5, b 4"), api.OK)
}

// P17.1: each refusal beside all that come behind it.
func TestUndoRefuses(t *testing.T) {
	p := unpacked(t, of(5, "a 9, b 4, c 1", "a 7, b 4", "a 2, b 1", 1))
	less := [][]api.Item{list("a 3"), list("a 2, b 2"), list("c 1"), list("a 1, c 1"), list("a 1, b 1, d 1"), item("a", most), goods(0, 16, 1)}
	for _, order := range append(noOrders(), 1, 4, 6, api.MaxOrder) {
		for _, l := range append(append(mayNots(), less...), nil, list("a 1")) {
			undo(t, p, order, l, api.ErrNone)
		}
	}
	for _, l := range mayNots() {
		undo(t, p, 5, l, api.ErrItems)
	}
	for _, l := range less {
		undo(t, p, 5, l, api.ErrLess)
	}
	has(t, "refused", p, of(5, "a 9, b 4, c 1", "a 7, b 4", "a 2, b 1", 1))
	undo(t, p, 5, list("a 2, b 1"), api.OK)
}

// P17.1, P17.2, P17.4
func TestNilParcels(t *testing.T) {
	var p *parcel.Parcels
	for _, order := range append(noOrders(), 1, 5) {
		for _, l := range append(mayNots(), nil, list("a 1")) {
			open(t, p, order, l, api.ErrClosed)
			back(t, p, order, l, api.ErrClosed)
			undo(t, p, order, l, api.ErrClosed)
			for _, region := range append(noRegions(), 0, 7) {
				ship(t, p, order, region, l, api.ErrClosed)
			}
		}
		if x, there := p.Parcel(order); there || !same(x, api.Parcel{}) || len(p.Left(order)) != 0 {
			t.Error(order, x, there)
		}
	}
	for x := range p.All() {
		t.Error(x)
	}
	if p.Len() != 0 || len(p.Pack()) != 0 {
		t.Error(p.Len(), p.Pack())
	}
}
