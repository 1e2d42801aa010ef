package boxes_test

import (
	"math/rand"
	"slices"
	"testing"

	"entrepot/api"
	"entrepot/bins"
	"entrepot/boxes"
	"entrepot/items"
	"entrepot/stock"
)

// house is a stock, and the floor on which its goods lie.
type house struct {
	*stock.Stock
	floor *bins.Floor
	t     *testing.T
}

func build(t *testing.T, r *rand.Rand) house {
	t.Helper()
	var l []api.Bin
	for number := 1; number < 40; number += 1 + r.Intn(4) {
		l = append(l, api.Bin{Number: number, Zone: r.Intn(16), Room: 1 + r.Intn(60)})
	}
	f, e := bins.New(append(l, api.Bin{Number: 99, Room: 5000}))
	if e != api.OK {
		t.Fatal(e)
	}
	return house{stock.New(), f, t}
}

// does something with the stock, and what comes of it on the floor.
func (h house) does(kind int, l []api.Item) bool {
	h.t.Helper()
	if h.Do(kind, l) != api.OK {
		return false
	}
	carry := func(string, int) ([]api.Place, api.Errno) { return nil, api.OK }
	switch kind {
	case api.DoReceive, api.DoUnpick, api.DoCome, api.DoRestock:
		carry = h.floor.Put
	case api.DoPick, api.DoSend:
		carry = h.floor.Take
	}
	for good, n := range items.All(l) {
		if _, e := carry(good, n); e != api.OK {
			h.t.Fatal(kind, good, n, e)
		}
	}
	return true
}

// same looks whether there is of each good on the floor what is free and held.
func (h house) same() {
	h.t.Helper()
	for good := range h.Goods() {
		if l := h.Level(good); h.floor.Of(good) != l.Free+l.Held {
			h.t.Fatal(good, h.floor.Of(good), l)
		}
	}
	for b := range h.floor.Bins() {
		if h.floor.Left(b.Number) < 0 {
			h.t.Fatal(b, h.floor.In(b.Number))
		}
	}
}

// boxed looks whether the list of what was shipped says just that.
func boxed(t *testing.T, l []api.Item) {
	t.Helper()
	sizes := []api.Size{size("a", 3, 2), size("b", 1, 7), size("c", 5, 5), size("d", 2, 2)}
	all, e := boxes.Pack(l, sizes, box(9, 14))
	if e != api.OK {
		t.Fatal(l, e)
	}
	s, e := boxes.List(all)
	if e != api.OK {
		t.Fatal(all, e)
	}
	again, e := boxes.Parse(s)
	var shipped []api.Item
	for _, item := range boxes.All(again) {
		shipped = append(shipped, item)
	}
	if norm, _ := items.Norm(shipped); e != api.OK || !slices.Equal(norm, l) {
		t.Fatal(l, s, e)
	}
}

// P28.6: whatever is done with a stock, its floor has what is free and held; what is shipped is in the boxes' list.
func TestFloorAndStock(t *testing.T) {
	r := rand.New(rand.NewSource(286))
	done := map[int]int{}
	for range 60 {
		h := build(t, r)
		for range 400 {
			kind := api.DoReceive + r.Intn(api.DoCome)
			var l []api.Item
			for _, good := range []string{"a", "b", "c", "d"} {
				if r.Intn(2) == 0 {
					l = append(l, api.Item{Good: good, N: 1 + r.Intn(5)})
				}
			}
			if len(l) > 0 && h.does(kind, l) {
				done[kind]++
				if kind == api.DoShip {
					boxed(t, l)
				}
			}
			h.same()
		}
	}
	for kind := api.DoReceive; kind <= api.DoCome; kind++ {
		if done[kind] < 200 {
			t.Error(kind, done)
		}
	}
}
