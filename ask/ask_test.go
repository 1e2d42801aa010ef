package ask_test

import (
	"math"
	"slices"
	"testing"

	"entrepot/api"
	"entrepot/ask"
	"entrepot/lists"
)

// P10.1, P10.2: the chapter's examples.
func TestExamples(t *testing.T) {
	if s := ask.Has(api.AskMove); s != "rti" {
		t.Error(s)
	}
	a := api.Ask{Client: 3, Number: 2, Kind: api.AskOrder, Items: lists.Of("a 5")}
	if n := ask.Order(a); n != 131 {
		t.Error(n)
	}
}

// P10.1
func TestHas(t *testing.T) {
	for kind, want := range fields() {
		if s := ask.Has(kind); s != want {
			t.Errorf("Has(%d) = %q, not %q", kind, s, want)
		}
	}
	for _, kind := range noKinds() {
		if s := ask.Has(kind); s != "" {
			t.Errorf("Has(%d) = %q", kind, s)
		}
	}
}

// P10.1
func TestMay(t *testing.T) {
	for _, a := range mays() {
		if !ask.May(a) {
			t.Errorf("%v may not be", a)
		}
	}
	for _, a := range mayNots() {
		if ask.May(a) {
			t.Errorf("%v may be", a)
		}
	}
	for _, a := range each() {
		if len(a.Items) == 0 {
			a.Items = []api.Item{}
			if !ask.May(a) {
				t.Errorf("%v may not be with an empty list", a)
			}
		}
	}
}

// P10.1: a region may be any but the one to which goods go, and the other way about.
func TestMayOfMoves(t *testing.T) {
	for from := range api.MaxRegions {
		for to := range api.MaxRegions {
			a := with(with(of(api.AskMove), 'r', from), 't', to)
			if ask.May(a) != (from != to) {
				t.Error(from, to)
			}
		}
	}
}

// P10.2
func TestOrder(t *testing.T) {
	for _, a := range mays() {
		want := 0
		if a.Kind == api.AskOrder {
			want = 64*a.Number + a.Client
		}
		if n := ask.Order(a); n != want {
			t.Errorf("%v: %d, not %d", a, n, want)
		}
	}
	for _, a := range mayNots() {
		if n := ask.Order(a); n != 0 {
			t.Errorf("%v: %d", a, n)
		}
	}
	last := with(with(of(api.AskOrder), '#', mostNumber), 'c', mostClient)
	if n := ask.Order(last); n != 1<<38+63 || n > api.MaxOrder {
		t.Error(n)
	}
}

// P10.2
func TestOwner(t *testing.T) {
	for order, want := range map[int]int{math.MinInt: 0, -64: 0, -63: 0, -1: 0, 0: 0, 1: 1, 63: 63, 64: 0, 65: 1, 131: 3, 1<<38 + 63: 63, api.MaxOrder: 0, api.MaxOrder + 5: 5, math.MaxInt: 63} {
		if n := ask.Owner(order); n != want {
			t.Errorf("Owner(%d) = %d, not %d", order, n, want)
		}
	}
}

// P10.2
func TestHome(t *testing.T) {
	for client := range api.MaxClients + 10 {
		for regions := 1; regions < 12; regions++ {
			want := client
			for want >= regions {
				want -= regions
			}
			if n := ask.Home(client, regions); n != want {
				t.Errorf("Home(%d, %d) = %d, not %d", client, regions, n, want)
			}
		}
	}
	for _, c := range [][3]int{{math.MaxInt, 2, 1}, {5, math.MaxInt, 5}, {math.MaxInt, math.MaxInt, 0}} {
		if n := ask.Home(c[0], c[1]); n != c[2] {
			t.Errorf("Home(%d, %d) = %d, not %d", c[0], c[1], n, c[2])
		}
	}
	for _, c := range [][2]int{{-1, 2}, {-5, 3}, {math.MinInt, 7}, {7, 0}, {7, -3}, {7, math.MinInt}, {-7, -3}, {-1, 0}} {
		if n := ask.Home(c[0], c[1]); n != 0 {
			t.Errorf("Home(%d, %d) = %d", c[0], c[1], n)
		}
	}
}

// P10.3
func TestOrdersAreUnlikeAndTheirOwners(t *testing.T) {
	met := map[int]bool{}
	for client := range api.MaxClients {
		for _, number := range []int{1, 2, 3, 63, 64, 65, 128, 1 << 20, mostNumber - 1, mostNumber} {
			order := ask.Order(with(with(of(api.AskOrder), 'c', client), '#', number))
			if met[order] || ask.Owner(order) != client || order < 1 || order > api.MaxOrder {
				t.Errorf("client %d, number %d: order %d", client, number, order)
			}
			met[order] = true
		}
	}
}

// P10.1
func TestSame(t *testing.T) {
	l := append(mays(), mayNots()...)
	for _, a := range l {
		b := a
		b.Items = slices.Clone(a.Items)
		if !ask.Same(a, b) || !ask.Same(a, a) {
			t.Errorf("%v is not itself", a)
		}
		if len(a.Items) == 0 {
			b.Items = []api.Item{}
			a.Items = nil
			if !ask.Same(a, b) || !ask.Same(b, a) {
				t.Errorf("%v is not itself with an empty list", a)
			}
		}
	}
	for _, a := range l {
		for _, b := range l[:200] {
			if ask.Same(a, b) != same(a, b) {
				t.Errorf("%v, %v: %t", a, b, ask.Same(a, b))
			}
		}
	}
}

// P10.1: each field alone makes another request, whether it may be or not.
func TestSameLooksAtEachField(t *testing.T) {
	whole := api.Ask{Client: 1, Number: 2, Kind: 3, Order: 4, Region: 5, To: 6, N: 7, Good: "g", Items: lists.Of("a 1, b 2")}
	unlike := func(name string, b api.Ask) {
		t.Helper()
		if ask.Same(whole, b) || ask.Same(b, whole) {
			t.Error(name, "is not looked at")
		}
	}
	for _, letter := range "c#kortn" {
		unlike(string(letter), with(whole, letter, 9))
		unlike(string(letter), with(whole, letter, 0))
	}
	for _, good := range []string{"", "h", "gg"} {
		b := whole
		b.Good = good
		unlike("Good", b)
	}
	for _, s := range []string{"", "a 1", "a 1, b 3", "a 1, c 2", "b 2, a 1", "a 1, b 2, c 1", "a 2, b 2"} {
		b := whole
		b.Items = lists.Of(s)
		unlike("Items", b)
	}
	b := whole
	b.Items = lists.Of("a 1, b 2, c 3")[:2]
	if !ask.Same(whole, b) {
		t.Error("what lies behind the list's end is looked at")
	}
}

// R3: what is handed in stays as it is, its room too.
func TestRequestsStayAsTheyAre(t *testing.T) {
	for _, a := range append(mays(), mayNots()...) {
		room := append(slices.Clone(a.Items), lists.Of("z 9")...)
		if len(a.Items) > 0 {
			a.Items = room[:len(a.Items)]
		}
		before := slices.Clone(room)
		ask.May(a)
		ask.Encode(a)
		ask.Body(a)
		ask.Order(a)
		ask.Same(a, a)
		if !slices.Equal(room, before) {
			t.Errorf("%v, not %v", room, before)
		}
	}
}
