package items_test

import (
	"math/rand"
	"slices"
	"testing"

	"entrepot/api"
	"entrepot/items"
)

type pair struct {
	a, b string
	// of the calls by their names; less: b has more of some good.
	plus, minus, meet, rest string
	less                    bool
}

// pairs are reckoned by hand.
func pairs() []pair {
	return []pair{
		{a: "", b: ""},
		{a: "a 3", b: "", plus: "a 3", minus: "a 3", rest: "a 3"},
		{a: "", b: "a 3", plus: "a 3", less: true},
		{a: "a 3", b: "a 3", plus: "a 6", meet: "a 3"},
		{a: "a 3", b: "a 2", plus: "a 5", minus: "a 1", meet: "a 2", rest: "a 1"},
		{a: "a 2", b: "a 3", plus: "a 5", meet: "a 2", less: true},
		{a: "a 3", b: "b 2", plus: "a 3, b 2", rest: "a 3", less: true},
		{a: "b 2", b: "a 3", plus: "a 3, b 2", rest: "b 2", less: true},
		{a: "a 3, b 2", b: "a 1, c 5", plus: "a 4, b 2, c 5", meet: "a 1", rest: "a 2, b 2", less: true},
		{a: "a 3, b 2, c 1", b: "b 2", plus: "a 3, b 4, c 1", minus: "a 3, c 1", meet: "b 2", rest: "a 3, c 1"},
		{a: "a 3, b 2, c 1", b: "a 1, c 1", plus: "a 4, b 2, c 2", minus: "a 2, b 2", meet: "a 1, c 1", rest: "a 2, b 2"},
		{a: "a 9, c 9", b: "a 1, b 1, c 1", plus: "a 10, b 1, c 10", meet: "a 1, c 1", rest: "a 8, c 8", less: true},
		{a: "a 1, ab 1", b: "a 1, b 1", plus: "a 2, ab 1, b 1", meet: "a 1", rest: "ab 1", less: true},
	}
}

// P6.2
func TestTwoLists(t *testing.T) {
	for _, p := range pairs() {
		a, b := list(p.a), list(p.b)
		if l, e := items.Plus(a, b); !slices.Equal(l, list(p.plus)) || e != api.OK {
			t.Errorf("Plus(%s; %s) = %v, %d", p.a, p.b, l, e)
		}
		wantE := api.OK
		if p.less {
			wantE = api.ErrLess
		}
		if l, e := items.Minus(a, b); !slices.Equal(l, list(p.minus)) || e != wantE {
			t.Errorf("Minus(%s; %s) = %v, %d", p.a, p.b, l, e)
		}
		if l := items.Meet(a, b); !slices.Equal(l, list(p.meet)) {
			t.Errorf("Meet(%s; %s) = %v", p.a, p.b, l)
		}
		if l := items.Rest(a, b); !slices.Equal(l, list(p.rest)) {
			t.Errorf("Rest(%s; %s) = %v", p.a, p.b, l)
		}
		if items.Covers(a, b) == p.less {
			t.Errorf("Covers(%s; %s) = %v", p.a, p.b, p.less)
		}
	}
}

// P6.2: what is at the limits.
func TestPlusAtTheLimits(t *testing.T) {
	for _, c := range []struct {
		a, b, want []api.Item
		e          api.Errno
	}{
		{item("a", most-1), item("a", 1), item("a", most), api.OK},
		{item("a", most), item("a", 1), nil, api.ErrOver},
		{item("a", most), item("a", most), nil, api.ErrOver},
		{goods(16, 1), goods(16, 1), goods(16, 2), api.OK},
		{goods(17, 1)[:8], goods(16, 1)[8:], goods(16, 1), api.OK},
		{goods(16, 1), goods(17, 1)[16:], nil, api.ErrLong},
		{goods(16, 1), goods(32, 1)[16:], nil, api.ErrLong},
		{goods(16, most), goods(17, 1)[1:], nil, api.ErrOver},
	} {
		if l, e := items.Plus(c.a, c.b); !slices.Equal(l, c.want) || e != c.e {
			t.Errorf("Plus(%v; %v) = %v, %d", c.a, c.b, l, e)
		}
	}
}

// P6.2
func TestMinusAtTheLimits(t *testing.T) {
	if l, e := items.Minus(goods(16, most), goods(16, most)); len(l) != 0 || e != api.OK {
		t.Error(l, e)
	}
	if l, e := items.Minus(goods(16, most), goods(16, most-1)); !slices.Equal(l, goods(16, 1)) || e != api.OK {
		t.Error(l, e)
	}
	if l, e := items.Minus(goods(16, most-1), goods(16, most)); len(l) != 0 || e != api.ErrLess {
		t.Error(l, e)
	}
	if l, e := items.Minus(goods(15, 1), goods(16, 1)); len(l) != 0 || e != api.ErrLess {
		t.Error(l, e)
	}
}

// P6.2: ahead of all else, on either side.
func TestTwoListsThatMayNotBe(t *testing.T) {
	for _, wrong := range mayNots() {
		for _, other := range append(mays(), wrong) {
			for _, p := range [][2][]api.Item{{wrong, other}, {other, wrong}} {
				if l, e := items.Plus(p[0], p[1]); len(l) != 0 || e != api.ErrItems {
					t.Errorf("Plus(%v; %v) = %v, %d", p[0], p[1], l, e)
				}
				if l, e := items.Minus(p[0], p[1]); len(l) != 0 || e != api.ErrItems {
					t.Errorf("Minus(%v; %v) = %v, %d", p[0], p[1], l, e)
				}
				if l := items.Meet(p[0], p[1]); len(l) != 0 {
					t.Errorf("Meet(%v; %v) = %v", p[0], p[1], l)
				}
				if l := items.Rest(p[0], p[1]); len(l) != 0 {
					t.Errorf("Rest(%v; %v) = %v", p[0], p[1], l)
				}
				if items.Covers(p[0], p[1]) {
					t.Errorf("Covers(%v; %v)", p[0], p[1])
				}
			}
		}
	}
}

// may is a list that may be, by chance.
func may(r *rand.Rand) []api.Item {
	for {
		if l, e := items.Norm(chance(r, 20)); e == api.OK {
			return l
		}
	}
}

// P6.4, and P6.2 good by good.
func TestWhatFollowsOfTwoLists(t *testing.T) {
	r := rand.New(rand.NewSource(8))
	covered, summed := 0, 0
	for range 20000 {
		a, b := may(r), may(r)
		if r.Intn(3) == 0 {
			b = items.Meet(a, b)
		}
		meet, rest, beyond := items.Meet(a, b), items.Rest(a, b), items.Rest(b, a)
		for _, good := range append(slices.Collect(names(a)), slices.Collect(names(b))...) {
			x, y := items.Of(a, good), items.Of(b, good)
			if items.Of(meet, good) != min(x, y) || items.Of(rest, good) != max(x-y, 0) {
				t.Fatalf("%s of %v and %v: %v, %v", good, a, b, meet, rest)
			}
		}
		if !items.May(meet) || !items.May(rest) {
			t.Fatalf("of %v and %v: %v, %v", a, b, meet, rest)
		}
		if both, e := items.Plus(meet, rest); !slices.Equal(both, a) || e != api.OK {
			t.Fatalf("Meet and Rest of %v and %v together: %v, %d", a, b, both, e)
		}
		if sum, e := items.Plus(a, b); e == api.OK {
			summed++
			if back, e := items.Minus(sum, b); !slices.Equal(back, a) || e != api.OK {
				t.Fatalf("Plus and Minus of %v and %v: %v, %d", a, b, back, e)
			}
		}
		covers := items.Covers(a, b)
		if covers != (len(beyond) == 0) {
			t.Fatalf("Covers(%v; %v) = %v, and the Rest is %v", a, b, covers, beyond)
		}
		left, e := items.Minus(a, b)
		if covers && (!slices.Equal(left, rest) || e != api.OK) || !covers && (len(left) != 0 || e != api.ErrLess) {
			t.Fatalf("Minus(%v; %v) = %v, %d", a, b, left, e)
		}
		if covers {
			covered++
		}
	}
	if covered < 1000 || summed < 1000 {
		t.Error("covered, summed:", covered, summed)
	}
}

func names(l []api.Item) func(func(string) bool) {
	return func(yield func(string) bool) {
		for _, x := range l {
			if !yield(x.Good) {
				return
			}
		}
	}
}

// answers calls all that answers lists on two that are handed in.
func answers(a, b []api.Item) [][]api.Item {
	norm, _ := items.Norm(a)
	plus, _ := items.Plus(a, b)
	minus, _ := items.Minus(a, b)
	items.Covers(a, b)
	items.May(a)
	items.Of(a, "a")
	items.Total(a)
	items.Encode(a)
	for range items.All(a) {
	}
	return [][]api.Item{norm, plus, minus, items.Meet(a, b), items.Rest(a, b), items.Meet(b, a), items.Rest(a, nil), items.Meet(a, a)}
}

// R3: lists that are answered share nothing with one another, nor with what is handed in.
func TestListsShareNothing(t *testing.T) {
	a, b := list("a 5, b 4, c 3, d 2, e 9, f 9"), list("a 2, b 1, c 1")
	lists := append(append(answers(a, b), answers(a, b)...), a, b)
	for i, l := range lists {
		var before [][]api.Item
		for _, other := range lists {
			before = append(before, slices.Clone(other))
		}
		l = l[:cap(l)]
		for j := range l {
			l[j] = api.Item{Good: "changed", N: -i}
		}
		for j, other := range lists {
			if j != i && !slices.Equal(other, before[j]) {
				t.Errorf("list %d changed with list %d", j, i)
			}
		}
	}
}

// R3: neither what is handed in, nor the room behind its end, is written to.
func TestListsLeaveWhatIsHandedIn(t *testing.T) {
	room := list("a 5, b 4, c 3, y 7, z 8")
	answers(room[:3], room[:2])
	answers(room[:2:3], room[1:2])
	unordered := list("b 4, a 5, b 1")
	items.Norm(unordered)
	if !slices.Equal(room, list("a 5, b 4, c 3, y 7, z 8")) || !slices.Equal(unordered, list("b 4, a 5, b 1")) {
		t.Error(room, unordered)
	}
}
