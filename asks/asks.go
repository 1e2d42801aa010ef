// Package asks makes requests, for tests.
package asks

import (
	"entrepot/api"
	"entrepot/ask"
	"entrepot/lists"
)

// Order is one that waits, if waits is 1.
func Order(client, number int, l string, waits int) api.Ask {
	return api.Ask{Client: client, Number: number, Kind: api.AskOrder, N: waits, Items: lists.Of(l)}
}

// About is of a kind that has an order alone.
func About(kind, client, number, order int) api.Ask {
	return api.Ask{Client: client, Number: number, Kind: kind, Order: order}
}

func Return(client, number, order, region int, l string) api.Ask {
	return api.Ask{Client: client, Number: number, Kind: api.AskReturn, Order: order, Region: region, Items: lists.Of(l)}
}

// Goods is of a kind that has a region and goods.
func Goods(kind, client, number, region int, l string) api.Ask {
	return api.Ask{Client: client, Number: number, Kind: kind, Region: region, Items: lists.Of(l)}
}

func Receive(client, number, region int, l string) api.Ask {
	return Goods(api.AskReceive, client, number, region, l)
}

func Count(client, number, region int, good string, n int) api.Ask {
	return api.Ask{Client: client, Number: number, Kind: api.AskCount, Region: region, Good: good, N: n}
}

func Move(client, number, region, to int, l string) api.Ask {
	return api.Ask{Client: client, Number: number, Kind: api.AskMove, Region: region, To: to, Items: lists.Of(l)}
}

func Low(client, number, mark int) api.Ask {
	return api.Ask{Client: client, Number: number, Kind: api.AskLow, N: mark}
}

// Code is a request's. A test whose request may not be is wrong itself: it panics.
func Code(a api.Ask) []byte {
	b, e := ask.Encode(a)
	if e != api.OK {
		panic(e)
	}
	return b
}

// Any is one of any kind but AskLow, by chance, of a few goods: below answers a number below the one that it is told. What is for an order is for one of orders.
func Any(below func(int) int, client, number, regions int, orders []int) api.Ask {
	kinds := []int{api.AskOrder, api.AskReceive, api.AskReceive, api.AskCount, api.AskRestock, api.AskScrap, api.AskMove}
	if len(orders) > 0 {
		kinds = append(kinds, api.AskOrder, api.AskCancel, api.AskPick, api.AskPick, api.AskShip, api.AskShip, api.AskReturn)
	}
	a := api.Ask{Client: client, Number: number, Kind: kinds[below(len(kinds))]}
	for _, letter := range ask.Has(a.Kind) {
		switch letter {
		case 'o':
			a.Order = orders[below(len(orders))]
		case 'r':
			a.Region = below(regions)
		case 't':
			a.To = (a.Region + 1 + below(api.MaxRegions-1)) % api.MaxRegions
		case 'n':
			a.N = below(2)
		case 'g':
			a.Good = "a"
		case 'i':
			a.Items = some(below)
		}
	}
	return a
}

func some(below func(int) int) []api.Item {
	l := []api.Item{{Good: "a", N: 1 + below(6)}, {Good: "b", N: 1 + below(4)}}
	from := below(2)
	return l[from : from+1+below(2-from)]
}
