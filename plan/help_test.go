package plan_test

import (
	"math/rand"
	"slices"
	"strings"

	"entrepot/api"
	"entrepot/lists"
)

// of makes offers of what is written as `a 3, b 2; ; c 1`: three, the second one of nothing.
func of(s string) [][]api.Item {
	var l [][]api.Item
	for _, offer := range strings.Split(s, ";") {
		l = append(l, lists.Of(strings.TrimSpace(offer)))
	}
	return l
}

func same(a, b [][]api.Item) bool {
	return slices.EqualFunc(a, b, slices.Equal[[]api.Item])
}

// wrongs are lists that may not be.
func wrongs() [][]api.Item {
	return [][]api.Item{
		make([]api.Item, 1), lists.Of("a 0"), lists.Of("a -1"), {{N: 1}}, lists.Of("A 1"), lists.Of("b 1, a 1"), lists.Of("a 1, a 1"),
		{{Good: "a", N: 1<<40 + 1}}, {{Good: "abcdefghijklmnopq", N: 1}}, lists.Many(0, 17, 1), lists.Many(0, 300, 1),
	}
}

// tally is how many there are of each of some goods: a list as numbers.
type tally [4]int

func (k tally) list() []api.Item {
	var l []api.Item
	for i, n := range k {
		if n > 0 {
			l = append(l, api.Item{Good: "abcd"[i : i+1], N: n})
		}
	}
	return l
}

func listsOf(l []tally) [][]api.Item {
	var all [][]api.Item
	for _, k := range l {
		all = append(all, k.list())
	}
	return all
}

// split gives one piece after the other, as long as there is one in the offer, and one is wanted.
func split(want tally, offers []tally) ([]tally, tally) {
	var given []tally
	for _, offer := range offers {
		var part tally
		for i := range want {
			for part[i] < offer[i] && want[i] > 0 {
				part[i]++
				want[i]--
			}
		}
		given = append(given, part)
	}
	return given, want
}

// enough sums up, and asks nothing of the order.
func enough(want tally, offers []tally) bool {
	for i, n := range want {
		for _, offer := range offers {
			n -= offer[i]
		}
		if n > 0 {
			return false
		}
	}
	return true
}

// fewest tries one place, two, and so on, the lowest places first.
func fewest(want tally, offers []tally) []int {
	if want == (tally{}) {
		return nil
	}
	for size := 1; size <= len(offers); size++ {
		if l, is := some(want, offers, size, 0, nil); is {
			return l
		}
	}
	return nil
}

func some(want tally, offers []tally, size, from int, in []int) ([]int, bool) {
	if size == 0 {
		var l []tally
		for _, place := range in {
			l = append(l, offers[place])
		}
		return in, enough(want, l)
	}
	for place := from; place < len(offers); place++ {
		if l, is := some(want, offers, size-1, place+1, append(slices.Clone(in), place)); is {
			return l, true
		}
	}
	return nil, false
}

func chance(r *rand.Rand, most int) tally {
	var k tally
	for i := range k {
		if r.Intn(3) > 0 {
			k[i] = r.Intn(most + 1)
		}
	}
	return k
}
