package goods_test

import (
	"bytes"
	"math"
	"math/rand"
	"slices"
	"testing"

	"entrepot/api"
	"entrepot/goods"
	"entrepot/lists"
	"entrepot/stock"
)

// P18.1: each number by itself, as ints go round.
func TestLevelAndFlow(t *testing.T) {
	pairs := []struct{ a, b, sum int }{
		{0, 0, 0}, {3, 4, 7}, {0, 5, 5}, {5, 0, 5}, {-3, 4, 1}, {-3, -4, -7}, {1 << 40, 1 << 40, 1 << 41}, {1 << 56, 1, 1<<56 + 1},
		{math.MaxInt, 1, math.MinInt}, {1, math.MaxInt, math.MinInt}, {math.MinInt, -1, math.MaxInt}, {math.MinInt, math.MinInt, 0}, {math.MaxInt, math.MaxInt, -2}, {math.MaxInt, math.MinInt, -1},
	}
	for i := range names() {
		for _, p := range pairs {
			var a, b, sum api.Total
			*numbers(&a)[i], *numbers(&b)[i], *numbers(&sum)[i] = p.a, p.b, p.sum
			if l := goods.Level(a.Level, b.Level); l != sum.Level {
				t.Errorf("%s: Level of %d and %d: %v", names()[i], p.a, p.b, l)
			}
			if f := goods.Flow(a.Flow, b.Flow); f != sum.Flow {
				t.Errorf("%s: Flow of %d and %d: %v", names()[i], p.a, p.b, f)
			}
		}
	}
	r := rand.New(rand.NewSource(18))
	for range 1000 {
		var a, b, sum api.Total
		for i := range names() {
			x, y := int(r.Uint64()), int(r.Uint64())
			*numbers(&a)[i], *numbers(&b)[i], *numbers(&sum)[i] = x, y, x+y
		}
		if goods.Level(a.Level, b.Level) != sum.Level || goods.Flow(a.Flow, b.Flow) != sum.Flow {
			t.Fatal(a, b)
		}
	}
}

// some has each number unlike all others.
func some(good string) row {
	return row{good, api.Level{Free: 10, Held: 20, Picked: 30, Aside: 40}, api.Flow{Received: 1000, Returned: 200, Counted: -50, Came: 60, Shipped: 700, Scrapped: 300, Sent: 110}}
}

// P18.1
func TestTotal(t *testing.T) {
	first := of(t, some("a"), row{good: "b", level: api.Level{Free: 3}, flow: api.Flow{Received: 3}})
	second := of(t, row{good: "a", level: api.Level{Free: 1, Held: 2, Picked: 4, Aside: 8}, flow: api.Flow{Received: 16, Returned: 32, Counted: 64, Came: 128, Shipped: 63, Scrapped: 31, Sent: 131}})
	both := api.Total{Good: "a", Level: api.Level{Free: 11, Held: 22, Picked: 34, Aside: 48}, Flow: api.Flow{Received: 1016, Returned: 232, Counted: 14, Came: 188, Shipped: 763, Scrapped: 331, Sent: 241}, Way: 53}
	once := api.Total{Good: "a", Level: some("a").level, Flow: some("a").flow, Way: 50}
	b := api.Total{Good: "b", Level: api.Level{Free: 3}, Flow: api.Flow{Received: 3}}
	twice := api.Total{Good: "a", Level: goods.Level(once.Level, once.Level), Flow: goods.Flow(once.Flow, once.Flow), Way: 100}
	for _, c := range []struct {
		l    []*stock.Stock
		good string
		want api.Total
	}{
		{nil, "a", api.Total{Good: "a"}},
		{[]*stock.Stock{}, "a", api.Total{Good: "a"}},
		{[]*stock.Stock{nil, nil}, "a", api.Total{Good: "a"}},
		{[]*stock.Stock{stock.New()}, "a", api.Total{Good: "a"}},
		{[]*stock.Stock{first}, "a", once},
		{[]*stock.Stock{first, second}, "a", both},
		{[]*stock.Stock{second, first}, "a", both},
		{[]*stock.Stock{nil, first, stock.New(), nil, second, nil}, "a", both},
		{[]*stock.Stock{first, first}, "a", twice},
		{[]*stock.Stock{first, second}, "b", b},
		{[]*stock.Stock{second, first}, "b", b},
		{[]*stock.Stock{first, second}, "c", api.Total{Good: "c"}},
		{[]*stock.Stock{first, second}, "A", api.Total{Good: "A"}},
		{[]*stock.Stock{first, second}, "", api.Total{}},
		{[]*stock.Stock{first, second}, "ab", api.Total{Good: "ab"}},
	} {
		if x := goods.Total(c.l, c.good); x != c.want {
			t.Errorf("Total(%v, %q) = %v, not %v", c.l, c.good, x, c.want)
		}
	}
}

// P18.1: sums go round, Way too.
func TestTotalGoesRound(t *testing.T) {
	most := 1 << 56
	sent := of(t, row{"a", api.Level{}, api.Flow{Received: most, Sent: most}})
	came := of(t, row{"a", api.Level{}, api.Flow{Shipped: most, Came: most}})
	l := slices.Repeat([]*stock.Stock{sent}, 128)
	if x := goods.Total(l, "a"); x != (api.Total{Good: "a", Flow: api.Flow{Received: math.MinInt, Sent: math.MinInt}, Way: math.MinInt}) || goods.All(l) {
		t.Error(x, goods.All(l))
	}
	if x := goods.Total(append(l[:127:127], came), "a"); x.Way != 126*most || x.Flow.Sent != 127*most {
		t.Error(x)
	}
	l = slices.Repeat(append(l, came), 2)
	if x := goods.Total(l, "a"); x.Flow != (api.Flow{Came: 2 * most, Shipped: 2 * most}) || x.Way != -2*most {
		t.Error(x)
	}
	l = slices.Repeat([]*stock.Stock{came}, 129)
	if x := goods.Total(l, "a"); x.Way != math.MaxInt-most+1 || x.Flow.Came != math.MinInt+most {
		t.Error(x)
	}
}

// P18.1
func TestGoods(t *testing.T) {
	full := stock.New()
	for i := range 4 {
		if e := full.Do(api.DoReceive, lists.Many(16*i, 16, 5)); e != api.OK {
			t.Fatal(e)
		}
	}
	gone := received(t, "c 5")
	do(t, gone, api.DoSend, "c 5")
	ab, bz, odd := received(t, "a 1, b 2"), received(t, "b 1, z 1"), received(t, "- 1, 0 1, aa 1, b 7")
	for _, c := range []struct {
		l    []*stock.Stock
		want []string
	}{
		{nil, nil},
		{[]*stock.Stock{nil, stock.New(), nil}, nil},
		{[]*stock.Stock{ab}, []string{"a", "b"}},
		{[]*stock.Stock{ab, bz}, []string{"a", "b", "z"}},
		{[]*stock.Stock{bz, nil, ab, bz}, []string{"a", "b", "z"}},
		{[]*stock.Stock{bz, odd, stock.New(), ab}, []string{"-", "0", "a", "aa", "b", "z"}},
		// Of which there is nothing any more.
		{[]*stock.Stock{gone, bz}, []string{"b", "c", "z"}},
	} {
		if l := slices.Collect(goods.Goods(c.l)); !slices.Equal(l, c.want) {
			t.Errorf("%v: %v, not %v", c.l, l, c.want)
		}
		if l := goods.Totals(c.l); !slices.Equal(l, each(c.l, c.want)) {
			t.Errorf("%v: %v, not %v", c.l, l, each(c.l, c.want))
		}
	}
	// More goods than one stock knows.
	l := slices.Collect(goods.Goods([]*stock.Stock{ab, full, odd}))
	if len(l) != 69 || !slices.IsSorted(l) || !slices.Equal(l, slices.Compact(slices.Clone(l))) {
		t.Error(l)
	}
}

// each is the total of each of some goods.
func each(l []*stock.Stock, names []string) []api.Total {
	var totals []api.Total
	for _, good := range names {
		totals = append(totals, goods.Total(l, good))
	}
	return totals
}

// R5: each time anew, stopped anywhere, and as the stocks are then.
func TestGoodsAreGoneOver(t *testing.T) {
	first, second := received(t, "a 1, c 1"), received(t, "b 1")
	l := []*stock.Stock{first, second, nil}
	all := goods.Goods(l[:2])
	want := []string{"a", "b", "c"}
	for range 20 {
		if got := slices.Collect(all); !slices.Equal(got, want) {
			t.Fatal(got)
		}
	}
	for stop := range want {
		var got []string
		for good := range all {
			got = append(got, good)
			if len(got) > stop {
				break
			}
		}
		if !slices.Equal(got, want[:stop+1]) {
			t.Error("stopped:", got)
		}
	}
	do(t, second, api.DoReceive, "- 1, d 1")
	if got := slices.Collect(all); !slices.Equal(got, []string{"-", "a", "b", "c", "d"}) {
		t.Error("behind more:", got)
	}
	var got []string
	for good := range all {
		got = append(got, good)
		do(t, first, api.DoReceive, "aa 1, e 1")
	}
	if !slices.Equal(got, []string{"-", "a", "b", "c", "d"}) {
		t.Error("it looked again:", got)
	}
	// R3: the list that was handed in is not kept.
	clear(l)
	if got := slices.Collect(all); !slices.Equal(got, []string{"-", "a", "aa", "b", "c", "d", "e"}) {
		t.Error("behind another list:", got)
	}
}

// P18.1: Kept, at the edges of every number: here, and on its way, is what came, less what went.
func TestKept(t *testing.T) {
	weight := []int{1, 1, 1, 1, -1, -1, -1, 0, 1, 1, 0}
	base := api.Total{Good: "a", Level: some("a").level, Flow: some("a").flow, Way: 50}
	if !goods.Kept(base) || !goods.Kept(api.Total{}) {
		t.Error("what is kept")
	}
	for i, name := range names() {
		for _, more := range []int{-2, -1, 1, 2, 1 << 40, math.MaxInt, math.MinInt} {
			x := base
			*numbers(&x)[i] += more
			if goods.Kept(x) != (weight[i] == 0) {
				t.Errorf("%s, %d more: %v", name, more, goods.Kept(x))
			}
			// Each other number makes up for it.
			for j, other := range names() {
				y := x
				*numbers(&y)[j] -= weight[i] * weight[j] * more
				if weight[j] != 0 && !goods.Kept(y) {
					t.Errorf("%s, %d more, and %s: not kept", name, more, other)
				}
				*numbers(&y)[j]++
				if weight[j] != 0 && goods.Kept(y) {
					t.Errorf("%s, %d more, and %s, 1 more: kept", name, more, other)
				}
			}
			x.Way -= weight[i] * more
			if goods.Kept(x) != (x.Way >= 0) {
				t.Errorf("%s, %d more, Way %d: %v", name, more, x.Way, goods.Kept(x))
			}
			x.Way++
			if goods.Kept(x) {
				t.Errorf("%s, %d more, Way %d: kept", name, more, x.Way)
			}
		}
	}
}

// P18.1: what is on its way is at least 0, whatever the sums are.
func TestKeptOfWay(t *testing.T) {
	for _, n := range []int{1, 2, 1 << 40, math.MaxInt} {
		if !goods.Kept(api.Total{Way: n, Flow: api.Flow{Received: n}}) || goods.Kept(api.Total{Way: -n, Flow: api.Flow{Received: -n}}) || goods.Kept(api.Total{Way: -n, Flow: api.Flow{Shipped: n}}) {
			t.Error(n)
		}
	}
	if goods.Kept(api.Total{Way: math.MinInt, Flow: api.Flow{Received: math.MinInt}}) {
		t.Error("the least int")
	}
	// Good, Came and Sent are not asked.
	if !goods.Kept(api.Total{Good: "A", Flow: api.Flow{Came: 7, Sent: -3}}) {
		t.Error("Came and Sent")
	}
}

// P18.1: sums go round.
func TestKeptGoesRound(t *testing.T) {
	for _, x := range []api.Total{
		{Level: api.Level{Free: math.MaxInt, Held: 1}, Flow: api.Flow{Received: math.MinInt}},
		{Level: api.Level{Free: math.MinInt, Aside: math.MinInt}},
		{Level: api.Level{Picked: 1}, Way: math.MaxInt, Flow: api.Flow{Counted: math.MinInt}},
		{Flow: api.Flow{Received: math.MaxInt, Returned: 1, Shipped: math.MinInt}},
		{Flow: api.Flow{Received: math.MinInt, Scrapped: math.MinInt}},
		{Flow: api.Flow{Shipped: math.MaxInt, Scrapped: 1, Counted: math.MinInt}},
		{Level: api.Level{Free: math.MaxInt}, Flow: api.Flow{Received: math.MinInt, Shipped: 1}},
	} {
		if !goods.Kept(x) {
			t.Error(x)
		}
		x.Level.Held++
		if goods.Kept(x) {
			t.Error(x)
		}
	}
}

// P18.1, the chapter's example.
func TestTotalsAndAll(t *testing.T) {
	first, second := received(t, "a 5"), stock.New()
	do(t, first, api.DoSend, "a 2")
	l := []*stock.Stock{first, second}
	if x := goods.Totals(l); len(x) != 1 || x[0] != (api.Total{Good: "a", Level: api.Level{Free: 3}, Flow: api.Flow{Received: 5, Sent: 2}, Way: 2}) || !goods.Kept(x[0]) || !goods.All(l) {
		t.Error(x)
	}
	do(t, second, api.DoCome, "a 2")
	if x := goods.Totals(l); len(x) != 1 || x[0].Way != 0 || x[0].Level.Free != 5 || !goods.All(l) {
		t.Error(x)
	}
	if !goods.All(nil) || !goods.All([]*stock.Stock{nil, stock.New()}) || len(goods.Totals(nil)) != 0 {
		t.Error("of nothing")
	}
	if goods.All(l[1:]) || !goods.All(l[:1]) {
		t.Error("of one alone")
	}
	// Each good has to be kept.
	for _, good := range []string{"-", "a", "m", "z"} {
		more := received(t, "- 1, a 1, m 1, z 1")
		l := []*stock.Stock{first, second, nil, more}
		if !goods.All(l) {
			t.Error("ahead of", good)
		}
		do(t, more, api.DoCome, good+" 1")
		if goods.All(l) {
			t.Error(good, "came from nowhere")
		}
		for _, x := range goods.Totals(l) {
			if goods.Kept(x) != (x.Good != good) {
				t.Error(good, x)
			}
		}
	}
}

// R3: totals are new each time, and stocks and lists stay as they are.
func TestNothingIsChanged(t *testing.T) {
	first, second := of(t, some("a"), some("b")), received(t, "b 1, c 3")
	l := []*stock.Stock{first, nil, second, received(t, "z 1")}
	before := [][]byte{first.Pack(), second.Pack()}
	one, two := goods.Totals(l[:3]), goods.Totals(l[:3])
	clear(one[:cap(one)])
	if len(two) != 3 || two[2] != (api.Total{Good: "c", Level: api.Level{Free: 3}, Flow: api.Flow{Received: 3}}) {
		t.Error(two)
	}
	goods.All(l[:3])
	goods.Total(l[:3], "q")
	for range goods.Goods(l[:3]) {
	}
	if !bytes.Equal(first.Pack(), before[0]) || !bytes.Equal(second.Pack(), before[1]) || l[0] != first || l[1] != nil || l[2] != second {
		t.Error("changed")
	}
}
