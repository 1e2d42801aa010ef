package model_test

import (
	"math"
	"slices"

	"entrepot/api"
	"entrepot/asks"
	"entrepot/lists"
)

func answer(client, number int, e api.Errno) api.Answer {
	return api.Answer{Client: client, Number: number, Code: e}
}

// receive is client 1's.
func receive(number int, l string) api.Ask {
	return asks.Receive(1, number, 0, l)
}

func cancel(client, number, order int) api.Ask {
	return asks.About(api.AskCancel, client, number, order)
}

func ship(client, number, order int) api.Ask {
	return asks.About(api.AskShip, client, number, order)
}

// each is a request of every kind, by client 3, number 2.
func each() []api.Ask {
	return []api.Ask{
		asks.Order(3, 2, "a 5, b 1", 1),
		cancel(3, 2, 131),
		asks.About(api.AskPick, 3, 2, 131),
		ship(3, 2, 131),
		asks.Return(3, 2, 131, 4, "a 5, b 1"),
		asks.Receive(3, 2, 4, "a 5, b 1"),
		asks.Count(3, 2, 4, "a", 9),
		asks.Goods(api.AskRestock, 3, 2, 4, "a 5, b 1"),
		asks.Goods(api.AskScrap, 3, 2, 4, "a 5, b 1"),
		asks.Move(3, 2, 4, 5, "a 5, b 1"),
		asks.Low(3, 2, 9),
	}
}

// broken are requests that may not be, each by one thing, of these kinds, by that client, with that number.
func broken(client, number int) []api.Ask {
	l := []api.Ask{
		asks.Order(client, number, "x 5", 2),
		asks.Order(client, number, "x 5", -1),
		asks.Order(client, number, "y 0", 1),
		asks.Order(client, number, "y 5, x 5", 1),
		asks.Order(client, number, "X 5", 1),
		asks.Order(client, number, "", 1),
		{Client: client, Number: number, Kind: api.AskOrder, Order: 7, Items: lists.Of("x 5")},
		{Client: client, Number: number, Items: lists.Of("x 5")},
		{Client: client, Number: number, Kind: 12, Items: lists.Of("x 5")},
		ship(client, number, 0),
		asks.Receive(client, number, 8, "x 5"),
		asks.Receive(client, number, 0, "x -5"),
		asks.Move(client, number, 1, 1, "x 5"),
		asks.Count(client, number, 0, "x", -1),
		asks.Count(client, number, 0, "", 5),
		asks.Count(client, number, 0, "X", 5),
		asks.Return(client, number, 0, 0, "x 5"),
		{Client: client, Number: number, Kind: api.AskScrap, Items: lists.Of("x 5"), Good: "x"},
		{Client: client, Number: number, Kind: api.AskLow, N: 1, Items: lists.Of("x 5")},
		{Client: client, Number: number, Kind: api.AskCancel, Order: 7, Good: "x"},
	}
	return l
}

// nobody are requests of clients, or with numbers, that may not be.
func nobody() []api.Ask {
	var l []api.Ask
	for _, client := range []int{math.MinInt, -1, api.MaxClients, math.MaxInt} {
		l = append(l, asks.Order(client, 2, "x 5", 1), asks.Receive(client, 2, 0, "x 5"))
	}
	for _, number := range []int{math.MinInt, -1, 0, api.MaxNumber + 1, math.MaxInt} {
		l = append(l, asks.Order(3, number, "x 5", 1), asks.Receive(3, number, 0, "x 5"))
	}
	return l
}

// copied shares nothing with the list it is made of.
func copied(l []api.Ask) []api.Ask {
	l = slices.Clone(l)
	for i := range l {
		l[i].Items = slices.Clone(l[i].Items)
	}
	return l
}

// sameAsks is whether both lists have the same requests, which may be or not.
func sameAsks(a, b []api.Ask) bool {
	return slices.EqualFunc(a, b, func(x, y api.Ask) bool {
		items := slices.Equal(x.Items, y.Items)
		return items && x.Client == y.Client && x.Number == y.Number && x.Kind == y.Kind && x.Order == y.Order && x.Region == y.Region && x.To == y.To && x.N == y.N && x.Good == y.Good
	})
}
