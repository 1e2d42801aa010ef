package boxes_test

import (
	"math"
	"slices"
	"strings"

	"entrepot/api"
	"entrepot/lists"
)

const most = api.MaxSize

func list(s string) []api.Item {
	return lists.Of(s)
}

// of makes boxes of what is written as `a 3, b 2; c 1`: two.
func of(s string) [][]api.Item {
	if s == "" {
		return nil
	}
	var l [][]api.Item
	for _, box := range strings.Split(s, "; ") {
		l = append(l, list(box))
	}
	return l
}

func same(a, b [][]api.Item) bool {
	return slices.EqualFunc(a, b, slices.Equal[[]api.Item])
}

func size(good string, volume, weight int) api.Size {
	return api.Size{Good: good, Volume: volume, Weight: weight}
}

func box(volume, weight int) api.Box {
	return api.Box{Volume: volume, Weight: weight}
}

// one are sizes of goods, each of which is as large as it is heavy.
func one(goods string, n int) []api.Size {
	var l []api.Size
	for _, good := range strings.Fields(goods) {
		l = append(l, size(good, n, n))
	}
	return l
}

// mayNots are lists of items that may not be.
func mayNots() [][]api.Item {
	return [][]api.Item{
		list("a 0"), list("a -1"), list("b 1, a 1"), list("a 1, a 1"), list("A 1"), list("a 1, b 0"), {{}}, {{N: 1}},
		list("abcdefghijklmnopq 1"), {{Good: "a", N: api.MaxCount + 1}}, lists.Many(0, 17, 1), lists.Many(0, 300, 1), {{Good: "a b", N: 1}}, {{Good: "a\n", N: 1}}, {{Good: "a=", N: 1}},
	}
}

// noSizes are no volume, and no weight.
func noSizes() []int {
	return []int{0, -1, math.MinInt, most + 1, math.MaxInt}
}

// noBoxes are boxes that may not be.
func noBoxes() []api.Box {
	var l []api.Box
	for _, n := range noSizes() {
		l = append(l, box(n, 9), box(9, n), box(n, n))
	}
	return l
}

// wrongSizes are sizes that may not be.
func wrongSizes() [][]api.Size {
	l := [][]api.Size{one("b a", 1), one("a a", 1), one("a c b", 1), one("A", 1), {{}}, {size("", 1, 1)}, one("a abcdefghijklmnopq", 1), one("a é", 1)}
	for _, n := range noSizes() {
		for _, s := range []api.Size{size("b", n, 1), size("b", 1, n), size("b", n, n)} {
			l = append(l, []api.Size{s}, []api.Size{size("a", 1, 1), s}, []api.Size{s, size("c", 1, 1)})
		}
	}
	return l
}

// ruin writes over a list, its spare room too.
func ruin[T any](l []T, with T) {
	l = l[:cap(l)]
	for i := range l {
		l[i] = with
	}
}
