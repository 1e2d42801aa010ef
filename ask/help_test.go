package ask_test

import (
	"math"
	"slices"
	"testing"

	"entrepot/api"
	"entrepot/ask"
	"entrepot/cells"
	"entrepot/lists"
)

const (
	mostClient = api.MaxClients - 1
	mostNumber = api.MaxNumber
	mostRegion = api.MaxRegions - 1
)

// each is a request of every kind, by client 3, number 2.
func each() []api.Ask {
	by := func(a api.Ask) api.Ask {
		a.Client, a.Number = 3, 2
		return a
	}
	l := lists.Of("a 3, b 200")
	return []api.Ask{
		by(api.Ask{Kind: api.AskOrder, N: 1, Items: l}),
		by(api.Ask{Kind: api.AskCancel, Order: 131}),
		by(api.Ask{Kind: api.AskPick, Order: 131}),
		by(api.Ask{Kind: api.AskShip, Order: 131}),
		by(api.Ask{Kind: api.AskReturn, Order: 131, Region: 4, Items: l}),
		by(api.Ask{Kind: api.AskReceive, Region: 4, Items: l}),
		by(api.Ask{Kind: api.AskCount, Region: 4, N: 9, Good: "a"}),
		by(api.Ask{Kind: api.AskRestock, Region: 4, Items: l}),
		by(api.Ask{Kind: api.AskScrap, Region: 4, Items: l}),
		by(api.Ask{Kind: api.AskMove, Region: 4, To: 5, Items: l}),
		by(api.Ask{Kind: api.AskLow, N: 300}),
	}
}

// of is the one of each that has the kind.
func of(kind int) api.Ask {
	return each()[kind-1]
}

// with is a request with one number put in another's place, by the letter of its field.
func with(a api.Ask, letter rune, n int) api.Ask {
	switch letter {
	case 'c':
		a.Client = n
	case '#':
		a.Number = n
	case 'k':
		a.Kind = n
	case 'o':
		a.Order = n
	case 'r':
		a.Region = n
	case 't':
		a.To = n
	case 'n':
		a.N = n
	}
	return a
}

// mays are requests that may be: one of each kind, and those at the edges.
func mays() []api.Ask {
	l := each()
	for _, a := range each() {
		l = append(l, with(a, 'c', 0), with(a, 'c', mostClient), with(a, '#', 1), with(a, '#', mostNumber))
		for _, letter := range fields()[a.Kind] {
			switch letter {
			case 'o':
				l = append(l, with(a, 'o', 1), with(a, 'o', api.MaxOrder))
			case 'r':
				l = append(l, with(a, 'r', 0), with(a, 'r', mostRegion))
			case 't':
				l = append(l, with(a, 't', 0), with(a, 't', mostRegion), with(with(a, 't', 4), 'r', 5))
			case 'n':
				least, most := least(a.Kind), most(a.Kind)
				l = append(l, with(a, 'n', least), with(a, 'n', most))
			case 'g':
				for _, good := range []string{"-", "0", "z", "abcdefghijklmnop"} {
					a.Good = good
					l = append(l, a)
				}
			case 'i':
				for _, list := range [][]api.Item{lists.Of("- 1"), {{Good: "abcdefghijklmnop", N: api.MaxCount}}, lists.Many(0, 16, api.MaxCount)} {
					a.Items = list
					l = append(l, a)
				}
			}
		}
	}
	return l
}

// mayNots are requests with one thing wrong each.
func mayNots() []api.Ask {
	l := []api.Ask{{}, {Client: 3, Number: 2}}
	for _, kind := range noKinds() {
		for _, a := range each() {
			l = append(l, with(a, 'k', kind))
		}
	}
	for _, a := range each() {
		for _, client := range []int{math.MinInt, -1, api.MaxClients, math.MaxInt} {
			l = append(l, with(a, 'c', client))
		}
		for _, number := range []int{math.MinInt, -1, 0, mostNumber + 1, math.MaxInt} {
			l = append(l, with(a, '#', number))
		}
		l = append(l, wrongNumbers(a)...)
		l = append(l, wrongTexts(a)...)
	}
	return l
}

// wrongNumbers has a wrong number in each field that is one; in those that the kind has not, whatever would be right elsewhere.
func wrongNumbers(a api.Ask) []api.Ask {
	var l []api.Ask
	bounds := map[rune][2]int{'o': {1, api.MaxOrder}, 'r': {0, mostRegion}, 't': {0, mostRegion}, 'n': {least(a.Kind), most(a.Kind)}}
	for letter, b := range bounds {
		wrong := []int{math.MinInt, -1, 1, 2, 131, math.MaxInt}
		if slices.Contains([]rune(fields()[a.Kind]), letter) {
			wrong = []int{math.MinInt, -1, b[0] - 1, b[1] + 1, math.MaxInt}
		}
		for _, n := range wrong {
			l = append(l, with(a, letter, n))
		}
	}
	if a.Kind == api.AskMove {
		l = append(l, with(a, 't', a.Region), with(a, 'r', a.To), with(with(a, 'r', 0), 't', 0))
	}
	return l
}

// wrongTexts has a wrong good, and wrong lists.
func wrongTexts(a api.Ask) []api.Ask {
	var l []api.Ask
	goods, items := []string{"a", "A"}, [][]api.Item{lists.Of("a 1"), lists.Of("a 0"), make([]api.Item, 1)}
	for _, letter := range fields()[a.Kind] {
		switch letter {
		case 'g':
			goods = []string{"", "A", "a b", "\x00", "\xc3\xa4", "abcdefghijklmnopq"}
		case 'i':
			items = [][]api.Item{nil, {}, lists.Of("a 0"), lists.Of("a -1"), lists.Of("b 1, a 1"), lists.Of("a 1, a 1"), lists.Of("A 1"), {{N: 1}}, {{Good: "a", N: api.MaxCount + 1}}, {{Good: "abcdefghijklmnopq", N: 1}}, lists.Many(0, 17, 1)}
		}
	}
	for _, good := range goods {
		other := a
		other.Good = good
		l = append(l, other)
	}
	for _, list := range items {
		other := a
		other.Items = list
		l = append(l, other)
	}
	return l
}

func noKinds() []int {
	return []int{math.MinInt, -1, 0, 12, 13, 256 + api.AskOrder, math.MaxInt}
}

// fields are the letters of each kind; of kind 0, which is none, there are none.
func fields() []string {
	return []string{"", "ni", "o", "o", "o", "ori", "ri", "rng", "ri", "ri", "rti", "n"}
}

func least(kind int) int {
	if kind == api.AskLow {
		return 1
	}
	return 0
}

func most(kind int) int {
	return map[int]int{api.AskOrder: 1, api.AskCount: api.MaxCount, api.AskLow: mostNumber + 1}[kind]
}

// code is put down as the chapter tells it, of whatever request.
func code(a api.Ask) []byte {
	return append(append(cells.Num(a.Client), cells.Num(a.Number)...), bodyCode(a)...)
}

func bodyCode(a api.Ask) []byte {
	var b []byte
	for _, n := range []int{a.Kind, a.Order, a.Region, a.To, a.N} {
		b = append(b, cells.Num(n)...)
	}
	b = append(append(b, cells.Num(len(a.Good))...), a.Good...)
	b = append(b, cells.Num(len(a.Items))...)
	for _, i := range a.Items {
		b = append(append(b, cells.Num(len(i.Good))...), i.Good...)
		b = append(b, cells.Num(i.N)...)
	}
	return b
}

// same holds two requests against each other field by field.
func same(a, b api.Ask) bool {
	items := slices.Equal(a.Items, b.Items)
	return items && a.Client == b.Client && a.Number == b.Number && a.Kind == b.Kind && a.Order == b.Order && a.Region == b.Region && a.To == b.To && a.N == b.N && a.Good == b.Good
}

func notDecoded(t *testing.T, name string, b []byte) {
	t.Helper()
	if a, e := ask.Decode(b); !same(a, api.Ask{}) || e != api.ErrCode {
		t.Errorf("%s: Decode(%q) = %v, %d", name, b, a, e)
	}
}
