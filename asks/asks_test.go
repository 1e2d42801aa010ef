package asks_test

import (
	"math/rand"
	"testing"

	"entrepot/api"
	"entrepot/ask"
	"entrepot/asks"
	"entrepot/lists"
)

// Each has just what it is told, and may be.
func TestRequests(t *testing.T) {
	l := lists.Of("a 5, b 1")
	for _, c := range []struct{ got, want api.Ask }{
		{asks.Order(3, 2, "a 5, b 1", 1), api.Ask{Client: 3, Number: 2, Kind: api.AskOrder, N: 1, Items: l}},
		{asks.About(api.AskCancel, 3, 2, 67), api.Ask{Client: 3, Number: 2, Kind: api.AskCancel, Order: 67}},
		{asks.About(api.AskShip, 3, 2, 67), api.Ask{Client: 3, Number: 2, Kind: api.AskShip, Order: 67}},
		{asks.Return(3, 2, 67, 4, "a 5, b 1"), api.Ask{Client: 3, Number: 2, Kind: api.AskReturn, Order: 67, Region: 4, Items: l}},
		{asks.Goods(api.AskScrap, 3, 2, 4, "a 5, b 1"), api.Ask{Client: 3, Number: 2, Kind: api.AskScrap, Region: 4, Items: l}},
		{asks.Receive(3, 2, 4, "a 5, b 1"), api.Ask{Client: 3, Number: 2, Kind: api.AskReceive, Region: 4, Items: l}},
		{asks.Count(3, 2, 4, "a", 9), api.Ask{Client: 3, Number: 2, Kind: api.AskCount, Region: 4, Good: "a", N: 9}},
		{asks.Move(3, 2, 4, 5, "a 5, b 1"), api.Ask{Client: 3, Number: 2, Kind: api.AskMove, Region: 4, To: 5, Items: l}},
		{asks.Low(3, 2, 9), api.Ask{Client: 3, Number: 2, Kind: api.AskLow, N: 9}},
	} {
		if !ask.Same(c.got, c.want) || !ask.May(c.got) {
			t.Error(c.got, "not", c.want)
		}
		if a, e := ask.Decode(asks.Code(c.got)); e != api.OK || !ask.Same(a, c.want) {
			t.Error(a, e)
		}
	}
}

// A test that is wrong itself is told so.
func TestCodeOfNoRequest(t *testing.T) {
	defer func() {
		if recover() == nil {
			t.Error("taken")
		}
	}()
	asks.Code(asks.Order(3, 0, "a 5", 1))
}

// All kinds come, each with what it has; those for orders only where there are some.
func TestAny(t *testing.T) {
	r := rand.New(rand.NewSource(1))
	for _, orders := range [][]int{nil, {67, 131}} {
		kinds := map[int]int{}
		for range 2000 {
			a := asks.Any(r.Intn, 3, 2, 4, orders)
			kinds[a.Kind]++
			if !ask.May(a) || a.Client != 3 || a.Number != 2 || a.Region > 3 {
				t.Fatal(a)
			}
		}
		all := api.AskMove
		if orders == nil {
			all -= 4
		}
		if len(kinds) != all || kinds[api.AskLow] > 0 {
			t.Error(kinds)
		}
	}
}
