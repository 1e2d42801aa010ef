package plan_test

import (
	"math"
	"math/rand"
	"slices"
	"testing"

	"entrepot/api"
	"entrepot/items"
	"entrepot/lists"
	"entrepot/plan"
)

// P14.1, P14.2: the chapter's example.
func TestExample(t *testing.T) {
	want, offers := lists.Of("a 5"), of("a 3; a 9")
	if given, left := plan.Split(want, offers); !same(given, of("a 3; a 2")) || len(left) != 0 {
		t.Error(given, left)
	}
	if l := plan.Fewest(want, offers); !slices.Equal(l, []int{1}) {
		t.Error(l)
	}
}

// P14.1
func TestVisit(t *testing.T) {
	for _, c := range []struct {
		first, regions int
		want           []int
	}{
		{0, 1, []int{0}},
		{0, 2, []int{0, 1}},
		{1, 2, []int{1, 0}},
		{2, 5, []int{2, 3, 4, 0, 1}},
		{0, 8, []int{0, 1, 2, 3, 4, 5, 6, 7}},
		{7, 8, []int{7, 0, 1, 2, 3, 4, 5, 6}},
	} {
		if l := plan.Visit(c.first, c.regions); !slices.Equal(l, c.want) {
			t.Errorf("Visit(%d, %d) = %v, not %v", c.first, c.regions, l, c.want)
		}
	}
}

// P14.1: whatever is first, whatever regions there are, and whatever is none of such.
func TestVisitOfAnyNumbers(t *testing.T) {
	numbers := []int{math.MinInt, -1 << 40, 1 << 40, math.MaxInt}
	for n := -20; n <= 20; n++ {
		numbers = append(numbers, n)
	}
	for _, first := range numbers {
		for _, regions := range numbers {
			l := plan.Visit(first, regions)
			if regions < 1 || regions > 8 || first < 0 || first >= regions {
				if len(l) != 0 {
					t.Errorf("Visit(%d, %d) = %v", first, regions, l)
				}
				continue
			}
			var want []int
			for region := first; region < regions; region++ {
				want = append(want, region)
			}
			for region := 0; region < first; region++ {
				want = append(want, region)
			}
			if !slices.Equal(l, want) {
				t.Errorf("Visit(%d, %d) = %v, not %v", first, regions, l, want)
			}
		}
	}
}

// R3
func TestVisitIsNew(t *testing.T) {
	l := plan.Visit(1, 3)
	clear(l[:cap(l)])
	if l := plan.Visit(1, 3); !slices.Equal(l, []int{1, 2, 0}) {
		t.Error(l)
	}
}

// P14.1, P14.2: reckoned by hand. Where left is empty, it is enough.
func TestSplit(t *testing.T) {
	for _, c := range []struct{ want, offers, given, left string }{
		{"a 5", "a 3; a 9", "a 3; a 2", ""},
		{"a 5", "a 9; a 3", "a 5; ", ""},
		{"a 5", "a 5", "a 5", ""},
		{"a 5", "a 4", "a 4", "a 1"},
		{"a 5", "", "", "a 5"},
		{"a 5", "b 5", "", "a 5"},
		{"a 5", "; a 2; ; b 1; a 2", "; a 2; ; ; a 2", "a 1"},
		{"a 5", "a 2; a 2; a 1; a 7", "a 2; a 2; a 1; ", ""},
		{"", "a 3; b 2", "; ", ""},
		{"a 5, b 2", "b 3; a 3; a 3, b 9", "b 2; a 3; a 2", ""},
		{"a 5, b 2", "c 3; a 3, c 1; a 1, b 1", "; a 3; a 1, b 1", "a 1, b 1"},
		{"a 1, b 1, c 1", "c 1; b 1; a 1", "c 1; b 1; a 1", ""},
		{"a 1, b 1, c 1", "c 1; b 1; b 1", "c 1; b 1; ", "a 1"},
		{"a 9", "a 1; a 1; a 1; a 1; a 1; a 1; a 1; a 1", "a 1; a 1; a 1; a 1; a 1; a 1; a 1; a 1", "a 1"},
		{"a 8", "a 1; a 1; a 1; a 1; a 1; a 1; a 1; a 1", "a 1; a 1; a 1; a 1; a 1; a 1; a 1; a 1", ""},
	} {
		want, offers, left := lists.Of(c.want), of(c.offers), lists.Of(c.left)
		given, l := plan.Split(want, offers)
		if !same(given, of(c.given)) || !slices.Equal(l, left) {
			t.Errorf("Split(%s | %s) = %v, %v", c.want, c.offers, given, l)
		}
		if l := plan.Missing(want, offers); !slices.Equal(l, left) {
			t.Errorf("Missing(%s | %s) = %v", c.want, c.offers, l)
		}
		if plan.Enough(want, offers) != (len(left) == 0) {
			t.Errorf("Enough(%s | %s) = %t", c.want, c.offers, len(left) != 0)
		}
	}
}

// P14.1, P14.2: no offers at all.
func TestNoOffers(t *testing.T) {
	for _, offers := range [][][]api.Item{nil, {}} {
		if given, left := plan.Split(lists.Of("a 5, b 2"), offers); len(given) != 0 || !slices.Equal(left, lists.Of("a 5, b 2")) {
			t.Error(given, left)
		}
		if given, left := plan.Split(nil, offers); len(given) != 0 || len(left) != 0 {
			t.Error(given, left)
		}
		if l := plan.Missing(lists.Of("a 5"), offers); !slices.Equal(l, lists.Of("a 5")) {
			t.Error(l)
		}
		if plan.Enough(lists.Of("a 5"), offers) || !plan.Enough(nil, offers) || !plan.Enough([]api.Item{}, offers) {
			t.Error("enough")
		}
		if l := plan.Fewest(lists.Of("a 5"), offers); len(l) != 0 {
			t.Error(l)
		}
	}
}

// P14.1, P14.2: as many as there may be, of as many goods.
func TestAtTheLimits(t *testing.T) {
	most := lists.Many(0, 16, 1<<40)
	less := lists.Many(0, 16, 1<<40-1)
	whole := slices.Repeat([][]api.Item{most}, 8)
	if given, left := plan.Split(most, whole); !same(given, append([][]api.Item{most}, make([][]api.Item, 7)...)) || len(left) != 0 {
		t.Error(given, left)
	}
	if given, left := plan.Split(most, [][]api.Item{less, less}); !same(given, [][]api.Item{less, lists.Many(0, 16, 1)}) || len(left) != 0 {
		t.Error(given, left)
	}
	if given, left := plan.Split(most, [][]api.Item{less}); !same(given, [][]api.Item{less}) || !slices.Equal(left, lists.Many(0, 16, 1)) {
		t.Error(given, left)
	}
	if l := plan.Missing(most, whole[:1]); len(l) != 0 || !plan.Enough(most, whole) {
		t.Error(l)
	}
	if l := plan.Fewest(most, whole); !slices.Equal(l, []int{0}) {
		t.Error(l)
	}
	eighths := slices.Repeat([][]api.Item{lists.Many(0, 16, 1<<37)}, 8)
	if l := plan.Fewest(most, eighths); !slices.Equal(l, []int{0, 1, 2, 3, 4, 5, 6, 7}) {
		t.Error(l)
	}
	if plan.Enough(most, eighths[:7]) || !plan.Enough(most, eighths) {
		t.Error("enough")
	}
}

// P14.1, P14.2: more than 8 offers.
func TestMoreOffersThanRegions(t *testing.T) {
	want, ones := lists.Of("a 1"), slices.Repeat(of("a 1"), 20)
	for n := 9; n <= 20; n++ {
		if given, left := plan.Split(want, ones[:n]); given != nil || left != nil {
			t.Error(n, given, left)
		}
		if plan.Enough(want, ones[:n]) || plan.Enough(nil, ones[:n]) || plan.Enough(nil, make([][]api.Item, n)) {
			t.Error(n, "are enough")
		}
		if l := plan.Fewest(want, ones[:n]); len(l) != 0 {
			t.Error(n, l)
		}
	}
	// Of Missing the chapter says nothing of the kind.
	if l := plan.Missing(lists.Of("a 25, b 1"), ones); !slices.Equal(l, lists.Of("a 5, b 1")) {
		t.Error(l)
	}
	if given, left := plan.Split(want, ones[:8]); len(given) != 8 || len(left) != 0 || !plan.Enough(want, ones[:8]) {
		t.Error(given, left)
	}
}

func nothing(t *testing.T, want []api.Item, offers [][]api.Item) {
	t.Helper()
	if given, left := plan.Split(want, offers); given != nil || left != nil {
		t.Errorf("Split(%v, %v) = %v, %v", want, offers, given, left)
	}
	if l := plan.Missing(want, offers); l != nil {
		t.Errorf("Missing(%v, %v) = %v", want, offers, l)
	}
	if plan.Enough(want, offers) {
		t.Errorf("Enough(%v, %v)", want, offers)
	}
	if l := plan.Fewest(want, offers); l != nil {
		t.Errorf("Fewest(%v, %v) = %v", want, offers, l)
	}
}

// P14.1, P14.2: lists that may not be, wherever they are.
func TestListsThatMayNotBe(t *testing.T) {
	for _, wrong := range wrongs() {
		nothing(t, wrong, nil)
		nothing(t, wrong, make([][]api.Item, 2))
		nothing(t, wrong, of("a 1; b 1"))
		for _, want := range [][]api.Item{nil, lists.Of("a 1"), lists.Of("a 5, b 1"), wrong} {
			for _, s := range []string{"", "a 9, b 9", "a 1; b 1; a 5"} {
				for place := range len(of(s)) + 1 {
					nothing(t, want, slices.Insert(of(s), place, wrong))
				}
			}
		}
		nothing(t, lists.Of("a 1"), append(slices.Repeat(of("a 1"), 7), wrong))
		nothing(t, lists.Of("a 1"), slices.Repeat([][]api.Item{wrong}, 9))
	}
}

// each goes over all lists of at most most of two goods.
func each(most int, f func(k tally)) {
	for a := range most + 1 {
		for b := range most + 1 {
			f(tally{a, b})
		}
	}
}

// agree holds all calls against the plain ones of help_test.go.
func agree(t *testing.T, want tally, offers []tally) {
	t.Helper()
	w, o := want.list(), listsOf(offers)
	wantGiven, wantLeft := split(want, offers)
	given, left := plan.Split(w, o)
	if !same(given, listsOf(wantGiven)) || !slices.Equal(left, wantLeft.list()) {
		t.Fatalf("Split(%v, %v) = %v, %v, not %v, %v", w, o, given, left, wantGiven, wantLeft)
	}
	if l := plan.Missing(w, o); !slices.Equal(l, wantLeft.list()) {
		t.Fatalf("Missing(%v, %v) = %v, not %v", w, o, l, wantLeft)
	}
	if is := plan.Enough(w, o); is != enough(want, offers) {
		t.Fatalf("Enough(%v, %v) = %t", w, o, is)
	}
	if l := plan.Fewest(w, o); !slices.Equal(l, fewest(want, offers)) {
		t.Fatalf("Fewest(%v, %v) = %v, not %v", w, o, l, fewest(want, offers))
	}
	follows(t, w, o, given, left)
}

// follows is P14.3.
func follows(t *testing.T, want []api.Item, offers, given [][]api.Item, left []api.Item) {
	t.Helper()
	sum := left
	for i, l := range given {
		if !items.Covers(offers[i], l) {
			t.Fatalf("%v of %v", l, offers[i])
		}
		both, e := items.Plus(sum, l)
		if e != api.OK {
			t.Fatal(e)
		}
		sum = both
	}
	if !slices.Equal(sum, want) || len(given) != len(offers) {
		t.Fatalf("%v and %v, of %v", given, left, want)
	}
}

// P14.1 to P14.3: every want of two goods among all offers of these, up to three.
func TestAllFewOffers(t *testing.T) {
	each(3, func(want tally) {
		agree(t, want, nil)
		each(2, func(a tally) {
			agree(t, want, []tally{a})
			each(2, func(b tally) {
				agree(t, want, []tally{a, b})
				each(2, func(c tally) { agree(t, want, []tally{a, b, c}) })
			})
		})
	})
}

// P14.1 to P14.3: by chance, up to eight offers of four goods.
func TestOffersByChance(t *testing.T) {
	r := rand.New(rand.NewSource(15))
	sizes := map[int]int{}
	for range 15000 {
		want := chance(r, 6)
		var offers []tally
		for range r.Intn(9) {
			offers = append(offers, chance(r, 1+r.Intn(5)))
		}
		agree(t, want, offers)
		sizes[len(fewest(want, offers))]++
	}
	for size := range 6 {
		if sizes[size] < 20 {
			t.Error(size, "places:", sizes[size])
		}
	}
}

// P14.2: the fewest, and of those that are as few the one whose places come first.
func TestFewest(t *testing.T) {
	for _, c := range []struct {
		want, offers string
		places       []int
	}{
		{"a 1", "a 1", []int{0}},
		{"a 1", "a 1; a 1; a 1", []int{0}},
		{"a 1", "; b 1; a 1; a 9", []int{2}},
		{"a 5", "a 3; a 3; a 9", []int{2}},
		{"a 5", "a 2; a 3; a 2; a 3", []int{0, 1}},
		{"a 6", "a 2; a 3; a 2; a 3", []int{1, 3}},
		{"a 5, b 5", "a 5; a 5; b 5; b 5", []int{0, 2}},
		{"a 5, b 5", "b 5; a 4; b 5; a 5", []int{0, 3}},
		{"a 4", "a 1; a 2; a 2; a 3", []int{0, 3}},
		{"a 3, b 1", "a 3; a 1; a 1, b 1; a 2; b 1", []int{0, 2}},
		{"a 3, b 1", "a 2; a 1, b 1; a 1; a 3; b 1", []int{0, 1}},
		{"a 7", "a 1; a 1; a 1; a 1; a 1; a 1; a 1; a 1", []int{0, 1, 2, 3, 4, 5, 6}},
		{"a 7", "a 1; ; a 1; a 1; a 1; a 1; a 1; a 1", []int{0, 2, 3, 4, 5, 6, 7}},
		{"a 8", "a 1; a 1; a 1; a 1; a 1; a 1; a 1; a 1", []int{0, 1, 2, 3, 4, 5, 6, 7}},
		{"a 2", "a 1; ; ; ; ; ; a 1; a 1", []int{0, 6}},
		{"a 1", "; ; ; ; ; ; ; a 1", []int{7}},
		{"a 9", "a 1; a 1; a 1; a 1; a 1; a 1; a 1; a 1", nil},
		{"a 1, b 1", "a 9; a 9", nil},
		{"a 1", "", nil},
		{"", "a 1; b 1", nil},
		{"", "", nil},
	} {
		if l := plan.Fewest(lists.Of(c.want), of(c.offers)); !slices.Equal(l, c.places) {
			t.Errorf("Fewest(%s | %s) = %v, not %v", c.want, c.offers, l, c.places)
		}
	}
}

// answers calls all that answers lists of goods.
func answers(want []api.Item, offers [][]api.Item) [][]api.Item {
	plan.Enough(want, offers)
	plan.Fewest(want, offers)
	given, left := plan.Split(want, offers)
	_, all := plan.Split(want, nil)
	return append(given, left, plan.Missing(want, offers), all, plan.Missing(want, nil))
}

// R3: lists that are answered share nothing with one another, nor with what is handed in.
func TestListsShareNothing(t *testing.T) {
	want, offers := lists.Of("a 5, b 4, c 3"), of("a 2, b 1; c 1; a 1, b 1; d 1")
	l := append(append(answers(want, offers), answers(want, offers)...), want)
	l = append(l, offers...)
	for i, one := range l {
		var before [][]api.Item
		for _, other := range l {
			before = append(before, slices.Clone(other))
		}
		one = one[:cap(one)]
		for j := range one {
			one[j] = api.Item{Good: "changed", N: -i}
		}
		for j, other := range l {
			if j != i && !slices.Equal(other, before[j]) {
				t.Errorf("list %d changed with list %d", j, i)
			}
		}
	}
}

// R3: neither what is handed in, nor the room behind its end, is written to.
func TestListsStayAsTheyAre(t *testing.T) {
	room := lists.Of("a 5, b 4, c 3, y 7, z 8")
	offers := [][]api.Item{room[:1], room[1:2], room[:3], room[3:], room[:2:2]}
	before := slices.Clone(offers)
	answers(room[:3], offers[:3])
	if !slices.Equal(room, lists.Of("a 5, b 4, c 3, y 7, z 8")) || !same(offers, before) {
		t.Error(room, offers)
	}
}
