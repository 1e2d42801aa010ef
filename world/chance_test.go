package world_test

import (
	"math/rand"
	"slices"
	"testing"

	"entrepot/api"
	"entrepot/ask"
	"entrepot/asks"
	"entrepot/goods"
	"entrepot/items"
	"entrepot/life"
	"entrepot/saga"
	"entrepot/stock"
)

// tale is a world to which anything happens, by chance.
type tale struct {
	*bench
	r     *rand.Rand
	asked []api.Ask
	made  map[int][]int
	codes map[api.Errno]int
}

func tell(t *testing.T, r *rand.Rand, regions, sectors int) *tale {
	return &tale{begin(t, regions, sectors, 6), r, nil, map[int][]int{}, map[api.Errno]int{}}
}

// request is a new one, or one that was asked already.
func (x *tale) request() api.Ask {
	if n := len(x.asked); n > 0 && x.r.Intn(4) == 0 {
		return x.asked[x.r.Intn(n)]
	}
	client, number := x.r.Intn(6), len(x.asked)+1
	a := asks.Any(x.r.Intn, client, number, len(x.plain.nodes), x.made[client])
	if o := ask.Order(a); o > 0 {
		x.made[client] = append(x.made[client], o)
	}
	x.asked = append(x.asked, a)
	return a
}

// next is an act, of any kind.
func (x *tale) next() api.Act {
	kinds := []int{1, 1, 1, 1, 1, 1, 2, 3, 4, 4, 5, 6, 6, 7, 7, 8, 8, 8, 8, 9, 10, 11}
	region := x.r.Intn(len(x.plain.nodes))
	a := api.Act{Kind: kinds[x.r.Intn(len(kinds))], A: region, N: x.r.Intn(40) - 10}
	switch a.Kind {
	case api.ActCrash:
		a.Torn, a.Bytes = x.r.Intn(40)-1, x.r.Intn(66)
		for dirty := range x.plain.devices[region].Dirty() {
			if x.r.Intn(2) == 0 {
				a.Keep = append(a.Keep, dirty)
			}
		}
	case api.ActStop:
		a.N = x.r.Intn(60) - 5
	case api.ActAsk:
		a.Ask = x.request()
	case api.ActBytes:
		a.Body = asks.Code(x.request())
	}
	return a
}

// P24.1, P24.2, P24.4: whatever happens, the world is as the plain one, and as another one to which the same happened.
func TestActsByChance(t *testing.T) {
	r := rand.New(rand.NewSource(241))
	codes := map[api.Errno]int{}
	for n := range 40 {
		x := tell(t, r, 1+n%4, []int{20, 64, 300}[n%3])
		for range 200 {
			codes[x.act(x.next())]++
		}
	}
	for _, e := range []api.Errno{api.OK, api.ErrNone, api.ErrTwice, api.ErrOff, api.ErrArg, api.ErrFull} {
		if codes[e] < 5 {
			t.Error(e, codes)
		}
	}
}

// begins has all regions begin anew: of one that is there the log may be at its end, or the power about to go.
func (x *tale) begins() {
	x.t.Helper()
	for me := range x.plain.nodes {
		x.quick(crash(me))
		x.does(start(me), api.OK)
	}
}

// rest has all that was asked asked again, and come, till all is at rest.
func (x *tale) rest() {
	x.t.Helper()
	x.begins()
	for _, a := range x.asked {
		x.does(tells(x.r.Intn(len(x.plain.nodes)), a), api.OK)
		x.quick(round())
	}
	for range 200 {
		if x.still() {
			x.look()
			x.quiet()
			return
		}
		x.quick(round())
	}
	x.t.Fatal("no rest")
}

func (x *tale) still() bool {
	for me := range x.Regions() {
		n := x.Node(me)
		if n.Open() > 0 || n.Desk().Open() > 0 {
			return false
		}
		for s := range n.Desk().Sagas() {
			if len(s.Pending) > 0 {
				return false
			}
		}
	}
	return x.Way() == 0
}

// quiet looks at a world at rest: all is answered, in one way, nothing got lost, and nothing was done twice.
func (x *tale) quiet() {
	x.t.Helper()
	if x.Unlike() {
		x.t.Fatal("unlike")
	}
	for _, a := range x.asked {
		answer, is := x.Answer(a.Client, a.Number)
		if !is || passing(answer) {
			x.t.Fatal("not answered:", a, answer)
		}
		x.codes[answer.Code]++
	}
	held := map[[2]int]api.Hold{}
	for me := range x.Regions() {
		r := x.Node(me).Region()
		if !r.Sound() || r.Stuck() > 0 {
			x.t.Fatal("region", me)
		}
		for h := range r.Orders() {
			held[[2]int{me, h.Order}] = h
		}
	}
	for me := range x.Regions() {
		for s := range x.Node(me).Desk().Sagas() {
			x.holds(held, s)
			p, _ := x.Node(me).Desk().Parcel(s.Order)
			if !life.Quiet(s.State) || !saga.May(s) || !items.Covers(p.Shipped, p.Back) || s.State == api.SagaShipped && !slices.Equal(p.Shipped, p.Want) {
				x.t.Fatal(s, p)
			}
		}
	}
	if len(held) > 0 {
		x.t.Fatal("for nobody:", held)
	}
	x.kept()
}

// holds looks whether each region has for an order just what its saga says.
func (x *tale) holds(held map[[2]int]api.Hold, s api.Saga) {
	x.t.Helper()
	for region, l := range s.Got {
		h := held[[2]int{region, s.Order}]
		delete(held, [2]int{region, s.Order})
		all, _ := items.Plus(h.Held, h.Picked)
		all, _ = items.Plus(all, h.Shipped)
		if !slices.Equal(all, l) {
			x.t.Fatal(h, s)
		}
	}
}

// kept looks whether what came and went is what was asked for, and answered OK.
func (x *tale) kept() {
	x.t.Helper()
	var stocks []*stock.Stock
	for me := range x.Regions() {
		stocks = append(stocks, x.Node(me).Region().Shelf())
	}
	came, back, scrapped, sent := map[string]int{}, map[string]int{}, map[string]int{}, map[string]int{}
	for _, a := range x.asked {
		answer, _ := x.Answer(a.Client, a.Number)
		to := map[int]map[string]int{api.AskReceive: came, api.AskReturn: back, api.AskScrap: scrapped, api.AskMove: sent}[a.Kind]
		for good, n := range items.All(a.Items) {
			if to != nil && answer.Code == api.OK {
				to[good] += n
			}
		}
	}
	for _, g := range goods.Totals(stocks) {
		f := g.Flow
		if !goods.Kept(g) || g.Way != 0 || f.Received != came[g.Good] || f.Returned != back[g.Good] || f.Scrapped != scrapped[g.Good] || f.Sent != sent[g.Good] || f.Came != f.Sent {
			x.t.Fatal(g, came, back, scrapped, sent)
		}
	}
}

// DOC P1 to P6: whatever was lost, repeated, mixed up, and crashed: where all regions are there, and all that is told comes, all comes to rest, each request done once or not at all, and answered so.
func TestAllComesToRest(t *testing.T) {
	r := rand.New(rand.NewSource(242))
	codes := map[api.Errno]int{}
	for n := range 30 {
		x := tell(t, r, 1+n%5, []int{200, 600}[n%2])
		x.codes = codes
		for range 3 {
			for range 120 {
				x.quick(x.next())
			}
			x.rest()
		}
	}
	for _, e := range []api.Errno{api.OK, api.ErrWait, api.ErrLess, api.ErrNone, api.ErrState, api.ErrGood} {
		if codes[e] < 20 {
			t.Error(codes)
		}
	}
}
