package goods_test

import (
	"math/rand"
	"slices"
	"strconv"
	"testing"

	"entrepot/api"
	"entrepot/goods"
	"entrepot/stock"
)

// sending is goods that were sent from one stock to another one.
type sending struct {
	to int
	l  []api.Item
}

// anyList is one that may be, of few goods.
func anyList(r *rand.Rand) []api.Item {
	var l []api.Item
	for i := range 4 {
		if r.Intn(2) == 0 {
			l = append(l, api.Item{Good: "g" + strconv.Itoa(i), N: 1 + r.Intn(5)})
		}
	}
	return l
}

// group is some stocks, and what is on its way between them.
type group struct {
	stocks []*stock.Stock
	way    []sending
	moved  int
}

// send sends something, which may never come.
func (g *group) send(r *rand.Rand) {
	l := anyList(r)
	if g.stocks[r.Intn(len(g.stocks))].Do(api.DoSend, l) == api.OK {
		g.way = append(g.way, sending{r.Intn(len(g.stocks)), l})
	}
}

// come is for one of those on their way: once, if at all.
func (g *group) come(t *testing.T, r *rand.Rand) {
	if len(g.way) == 0 {
		return
	}
	i := r.Intn(len(g.way))
	if e := g.stocks[g.way[i].to].Do(api.DoCome, g.way[i].l); e != api.OK {
		t.Fatal(e)
	}
	g.way = slices.Delete(g.way, i, i+1)
	g.moved++
}

// other is what else is done with stocks.
func (g *group) other(r *rand.Rand) {
	kinds := []int{api.DoReceive, api.DoReceive, api.DoHold, api.DoRelease, api.DoPick, api.DoUnpick, api.DoShip, api.DoReturn, api.DoRestock, api.DoScrap}
	i := r.Intn(len(g.stocks))
	switch r.Intn(12) {
	case 0:
		g.stocks[i].Count("g"+strconv.Itoa(r.Intn(4)), r.Intn(30))
	case 1:
		// One that was packed and unpacked.
		g.stocks[i], _ = stock.Unpack(g.stocks[i].Pack())
	case 2:
		g.stocks[i] = g.stocks[i].Fork()
	default:
		g.stocks[i].Do(kinds[r.Intn(len(kinds))], anyList(r))
	}
}

// onWay is how many of a good are on their way.
func (g *group) onWay(good string) int {
	n := 0
	for _, s := range g.way {
		for _, i := range s.l {
			if i.Good == good {
				n += i.N
			}
		}
	}
	return n
}

// P18.2: each total is kept, and Way is what was sent and did not come, whatever was done with the stocks.
func TestNothingGetsLost(t *testing.T) {
	r := rand.New(rand.NewSource(182))
	moved := 0
	for round := range 200 {
		g := &group{}
		for range 1 + round%8 {
			g.stocks = append(g.stocks, stock.New())
		}
		for i := range 300 {
			switch r.Intn(4) {
			case 0:
				g.send(r)
			case 1:
				g.come(t, r)
			default:
				g.other(r)
			}
			if !goods.All(g.stocks) {
				t.Fatal(round, i, goods.Totals(g.stocks))
			}
			for _, x := range goods.Totals(g.stocks) {
				if !goods.Kept(x) || x.Way != g.onWay(x.Good) {
					t.Fatal(round, i, x, g.onWay(x.Good))
				}
			}
		}
		moved += g.moved
	}
	if moved < 1000 {
		t.Error("moved:", moved)
	}
}

// P18.1, P18.2: where more came than was sent, that good is not kept, and all others are.
func TestWhatComesTwiceIsFound(t *testing.T) {
	r := rand.New(rand.NewSource(183))
	found := 0
	for range 300 {
		g := &group{stocks: []*stock.Stock{stock.New(), stock.New(), stock.New()}}
		for range 100 {
			g.other(r)
			g.send(r)
			g.come(t, r)
		}
		twice := anyList(r)
		if e := g.stocks[r.Intn(3)].Do(api.DoCome, twice); e != api.OK {
			t.Fatal(e)
		}
		all := true
		for _, x := range goods.Totals(g.stocks) {
			n := g.onWay(x.Good)
			for _, i := range twice {
				if i.Good == x.Good {
					n -= i.N
				}
			}
			if x.Way != n || goods.Kept(x) != (n >= 0) {
				t.Fatal(x, n)
			}
			all = all && n >= 0
		}
		if goods.All(g.stocks) != all {
			t.Fatal(goods.Totals(g.stocks))
		}
		if !all {
			found++
		}
	}
	if found < 50 {
		t.Error("found:", found)
	}
}

// plain reckons totals good by good, with nothing handed on.
func plain(l []*stock.Stock) []api.Total {
	var known []string
	for _, s := range l {
		for good := range s.Goods() {
			if !slices.Contains(known, good) {
				known = append(known, good)
			}
		}
	}
	slices.Sort(known)
	var totals []api.Total
	for _, good := range known {
		x := api.Total{Good: good}
		for _, s := range l {
			one := api.Total{Level: s.Level(good), Flow: s.Flow(good)}
			for i, n := range numbers(&x) {
				*n += *numbers(&one)[i]
			}
			x.Way += one.Flow.Sent - one.Flow.Came
		}
		totals = append(totals, x)
	}
	return totals
}

// P18.1: any stocks, some nil, some twice in the list.
func TestTotalsAreThePlainOnes(t *testing.T) {
	r := rand.New(rand.NewSource(184))
	for range 300 {
		g := &group{stocks: []*stock.Stock{stock.New(), stock.New(), stock.New(), stock.New()}}
		for range r.Intn(100) {
			g.other(r)
			g.send(r)
			g.come(t, r)
		}
		var l []*stock.Stock
		for range r.Intn(9) {
			l = append(l, append(g.stocks, nil)[r.Intn(5)])
		}
		if totals := goods.Totals(l); !slices.Equal(totals, plain(l)) {
			t.Fatal(totals, plain(l))
		}
		for _, x := range plain(l) {
			if y := goods.Total(l, x.Good); y != x {
				t.Fatal(x, y)
			}
		}
	}
}
