package audit_test

import (
	"math/rand"
	"testing"

	"entrepot/api"
	"entrepot/ask"
	"entrepot/asks"
	"entrepot/audit"
)

// tale is a world to which anything happens, by chance.
type tale struct {
	*bench
	r     *rand.Rand
	asked []api.Ask
	made  map[int][]int
}

func tell(t *testing.T, r *rand.Rand, regions, sectors int) *tale {
	return &tale{begin(t, regions, sectors), r, nil, map[int][]int{}}
}

// request is a new one, one that was asked already, or another one of that number.
func (x *tale) request() api.Ask {
	client, number := x.r.Intn(6), len(x.asked)+1
	if n := len(x.asked); n > 0 && x.r.Intn(4) == 0 {
		a := x.asked[x.r.Intn(n)]
		if x.r.Intn(4) > 0 {
			return a
		}
		client, number = a.Client, a.Number
	}
	a, is := x.onward(number)
	if !is || x.r.Intn(2) == 0 {
		a = asks.Any(x.r.Intn, client, number, x.Regions(), x.made[client])
	}
	if o := ask.Order(a); o > 0 {
		x.made[client] = append(x.made[client], o)
	}
	x.asked = append(x.asked, a)
	return a
}

// onward is what makes some order go on.
func (x *tale) onward(number int) (api.Ask, bool) {
	var l []api.Ask
	for s := range x.Node(x.r.Intn(x.Regions())).Desk().Sagas() {
		client := ask.Owner(s.Order)
		switch s.State {
		case api.SagaHeld:
			l = append(l, asks.About(api.AskPick, client, number, s.Order))
		case api.SagaPicked:
			l = append(l, asks.About(api.AskShip, client, number, s.Order))
		case api.SagaShipped:
			l = append(l, asks.Return(client, number, s.Order, x.r.Intn(x.Regions()), s.Want[0].Good+" 1"))
		}
	}
	if len(l) == 0 {
		return api.Ask{}, false
	}
	return l[x.r.Intn(len(l))], true
}

// act is of any kind, and may be refused.
func (x *tale) act() {
	kinds := []int{1, 1, 1, 1, 1, 1, 2, 3, 4, 4, 5, 6, 7, 7, 7, 8, 8, 8, 8, 10, 11}
	a := api.Act{Kind: kinds[x.r.Intn(len(kinds))], A: x.r.Intn(x.Regions()), N: x.r.Intn(40) - 10, Torn: -1}
	switch a.Kind {
	case api.ActCrash:
		a.Bytes = x.r.Intn(66)
	case api.ActStop:
		a.N = x.r.Intn(60) - 5
	case api.ActAsk:
		a.Ask = x.request()
	}
	x.Do(a)
}

// meddle has something happen to a node's region, or to its desk (if far), that no node told it.
func (x *tale) meddle(far bool) {
	i := x.r.Intn(x.Regions())
	n := x.Node(i)
	if n == nil {
		return
	}
	order := 64 + x.r.Intn(6)
	for s := range n.Desk().Sagas() {
		if x.r.Intn(3) == 0 {
			order = s.Order
		}
	}
	a := asks.Any(x.r.Intn, x.r.Intn(6), 900+x.r.Intn(9), x.Regions(), []int{order})
	kind := api.MailTake + x.r.Intn(8)
	m := api.Mail{Kind: kind, Order: order}
	if kind == api.MailTake || kind == api.MailTook || kind == api.MailPicked || kind == api.MailShipped {
		m.Items = []api.Item{{Good: "a", N: 1 + x.r.Intn(3)}}
	}
	what := x.r.Intn(6)
	if !far {
		what = min(what, 3)
	}
	switch what {
	case 0:
		n.Region().Mail(mailDo(a), i)
	case 1:
		n.Region().Mail(about(api.MailGoods, 1+x.r.Intn(99), "a 1"), i)
	case 2, 3:
		n.Region().Mail(m, i)
	case 4:
		n.Desk().Ask(a, i)
	case 5:
		n.Desk().Mail(m, x.r.Intn(x.Regions()))
	}
}

// P26.1, P26.2, P26.3: whatever happens to a world, all audits but Quiet are true, always.
func TestAllIsSo(t *testing.T) {
	r := rand.New(rand.NewSource(261))
	quiet := map[bool]int{}
	for n := range 30 {
		x := tell(t, r, 1+n%4, []int{40, 200, 1000}[n%3])
		for range 150 {
			x.act()
			is := x.look()["quiet"]
			quiet[is]++
			if is {
				x.but()
			} else {
				x.but("quiet")
			}
		}
	}
	if quiet[true] < 100 || quiet[false] < 1000 {
		t.Error(quiet)
	}
}

// P26.1, P26.2: of worlds with which someone meddles the audits are as reckoned plainly; each but those of which desks take care is false at times.
func TestMeddling(t *testing.T) {
	r := rand.New(rand.NewSource(262))
	is, not := map[string]int{}, map[string]int{}
	for n := range 60 {
		x := tell(t, r, 1+n%4, 600)
		for range 8 {
			for range 8 {
				x.act()
				x.look()
			}
			if x.r.Intn(2) == 0 {
				x.everyone()
			}
			for range 20 {
				x.Do(api.Act{Kind: api.ActRound})
			}
			for range 3 {
				x.meddle(n%3 == 0)
				for name, so := range x.look() {
					if so {
						is[name]++
					} else {
						not[name]++
					}
				}
			}
		}
	}
	for _, name := range names() {
		if is[name] < 100 {
			t.Error(name, is, not)
		}
	}
	for _, name := range []string{"kept", "flows", "held", "quiet"} {
		if not[name] < 50 {
			t.Error(name, is, not)
		}
	}
}

// everyone is there, and has power.
func (x *tale) everyone() {
	for i := range x.Regions() {
		x.Do(api.Act{Kind: api.ActCrash, A: i, Torn: -1})
		x.start(i)
	}
}

// DOC P4: where all regions are there, and all that is told comes, all is quiet, and answered, within as many rounds as Bound says.
func TestBoundIsEnough(t *testing.T) {
	r := rand.New(rand.NewSource(263))
	most := 0
	for n := range 20 {
		x := tell(t, r, 1+n%8, 2000)
		for range 3 {
			for range 150 {
				x.act()
			}
			x.everyone()
			for _, a := range x.asked {
				x.does(api.Act{Kind: api.ActAsk, A: x.r.Intn(x.Regions()), Ask: a})
			}
			rounds := 0
			for bound := audit.Bound(x.Regions(), x.sagas()); !audit.Quiet(x.World); rounds++ {
				if rounds == bound {
					t.Fatal("not quiet behind", bound)
				}
				x.does(api.Act{Kind: api.ActRound})
			}
			most = max(most, rounds)
			x.but()
			for _, a := range x.asked {
				if _, is := x.Answer(a.Client, a.Number); !is {
					t.Fatal("not answered:", a)
				}
			}
		}
	}
	if most < 5 {
		t.Error(most)
	}
}
