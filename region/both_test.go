package region_test

import (
	"math/rand"
	"slices"
	"testing"

	"entrepot/api"
	"entrepot/ask"
	"entrepot/desk"
	"entrepot/goods"
	"entrepot/items"
	"entrepot/life"
	"entrepot/region"
	"entrepot/saga"
	"entrepot/stock"
)

// letter is mail on its way.
type letter struct {
	from int
	api.Post
}

// all of them: desks and regions, mail between them, and what clients were told.
type both struct {
	t       *testing.T
	r       *rand.Rand
	desks   []*desk.Desk
	regions []*region.Region
	way     []letter
	asked   []api.Ask
	told    map[[2]int]api.Answer
}

func among(t *testing.T, r *rand.Rand, many int) *both {
	b := &both{t: t, r: r, told: map[[2]int]api.Answer{}}
	for me := range many {
		d, _ := desk.New(me, many)
		x, _ := region.New(me, many)
		b.desks, b.regions = append(b.desks, d), append(b.regions, x)
	}
	return b
}

func (b *both) posts(from int, l []api.Post) {
	for _, p := range l {
		b.way = append(b.way, letter{from, p})
	}
}

// ask is told any region, as the home's mail.
func (b *both) ask(a api.Ask) {
	at := b.r.Intn(len(b.desks))
	b.way = append(b.way, letter{at, post(ask.Home(a.Client, len(b.desks)), api.Mail{Kind: api.MailAsk, Ask: a})})
}

// deliver has any letter come, whichever was sent first.
func (b *both) deliver() {
	b.t.Helper()
	i := b.r.Intn(len(b.way))
	x := b.way[i]
	b.way = slices.Delete(b.way, i, i+1)
	switch x.Mail.Kind {
	case api.MailAsk:
		b.posts(x.To, b.desks[x.To].Ask(x.Mail.Ask, x.from))
	case api.MailAnswer:
		b.answer(x.Mail.Answer)
	case api.MailTake, api.MailFree, api.MailPick, api.MailShip, api.MailDo, api.MailGoods:
		before := b.regions[x.To].Hold(x.Mail.Order)
		l := b.regions[x.To].Mail(x.Mail, x.from)
		b.word(x, before, l)
		b.posts(x.To, l)
	default:
		b.posts(x.To, b.desks[x.To].Mail(x.Mail, x.from))
	}
	if b.r.Intn(30) == 0 {
		b.again(x.To)
	}
}

// again puts a region and its desk in place that were saved and loaded.
func (b *both) again(me int) {
	b.t.Helper()
	many := len(b.desks)
	d, e := desk.Load(b.desks[me].Save(), me, many)
	x, also := region.Load(b.regions[me].Save(), me, many)
	if e != api.OK || also != api.OK {
		b.t.Fatal("not loaded:", e, also)
	}
	b.desks[me], b.regions[me] = d, x
}

// P21.2: what is answered is answered so ever after, but for what is passing.
func (b *both) answer(a api.Answer) {
	b.t.Helper()
	if a.Code == api.ErrClash || a.Code == api.ErrStale {
		b.t.Fatal(a)
	}
	key := [2]int{a.Client, a.Number}
	if first, is := b.told[key]; is && first != a {
		b.t.Fatal(first, a)
	}
	b.told[key] = a
}

// P22.2: what it tells to be held, picked, shipped is what it holds, picked, shipped.
func (b *both) word(x letter, before api.Hold, l []api.Post) {
	b.t.Helper()
	now := b.regions[x.To].Hold(x.Mail.Order)
	if !b.regions[x.To].Sound() {
		b.t.Fatal("not sound")
	}
	if len(l) == 0 {
		return
	}
	said := l[0].Mail.Items
	var more []api.Item
	switch x.Mail.Kind {
	case api.MailTake:
		more, _ = items.Minus(now.Held, before.Held)
	case api.MailPick:
		more, _ = items.Minus(now.Picked, before.Picked)
	case api.MailShip:
		more, _ = items.Minus(now.Shipped, before.Shipped)
	case api.MailFree:
		if len(now.Held) > 0 {
			b.t.Fatal(now)
		}
	default:
		return
	}
	if !slices.Equal(said, more) {
		b.t.Fatal(x, l, before, now)
	}
}

// sound looks whether all sagas and parcels may be.
func (b *both) sound() {
	b.t.Helper()
	for _, d := range b.desks {
		for s := range d.Sagas() {
			p, is := d.Parcel(s.Order)
			if !saga.May(s) || !is || !items.Covers(p.Want, p.Shipped) || !items.Covers(p.Shipped, p.Back) {
				b.t.Fatal(s, p)
			}
			if s.State == api.SagaShipped && !slices.Equal(p.Want, p.Shipped) {
				b.t.Fatal(s, p)
			}
		}
	}
}

// quiet looks at them when no mail is on its way: all is answered, at rest, and nothing got lost.
func (b *both) quiet() {
	b.t.Helper()
	b.sound()
	held := map[[2]int]api.Hold{}
	var stocks []*stock.Stock
	for me, r := range b.regions {
		stocks = append(stocks, r.Shelf())
		if r.Stuck() != 0 {
			b.t.Fatal("stuck")
		}
		for h := range r.Orders() {
			held[[2]int{me, h.Order}] = h
		}
	}
	for _, d := range b.desks {
		if d.Open() != 0 {
			b.t.Fatal(d.Open(), "open")
		}
		waiting := 0
		for s := range d.Sagas() {
			if !life.Quiet(s.State) || len(s.Pending) > 0 {
				b.t.Fatal(s)
			}
			if s.State == api.SagaWaiting {
				waiting++
			}
			for region, l := range s.Got {
				b.holds(held[[2]int{region, s.Order}], s, l)
				delete(held, [2]int{region, s.Order})
			}
		}
		if d.Waiting() != waiting {
			b.t.Fatal(d.Waiting(), waiting)
		}
	}
	if len(held) > 0 {
		b.t.Fatal("for nobody:", held)
	}
	b.kept(stocks)
}

// holds looks whether a region has for an order what its saga says.
func (b *both) holds(h api.Hold, s api.Saga, l []api.Item) {
	b.t.Helper()
	want := api.Hold{Order: h.Order}
	switch s.State {
	case api.SagaHeld:
		want.Held = l
	case api.SagaPicked:
		want.Picked = l
	case api.SagaShipped:
		want.Shipped = l
	}
	if !sameHold(h, want) {
		b.t.Fatal(h, s)
	}
}

// kept looks whether what came and went is what was asked for, and answered OK.
func (b *both) kept(stocks []*stock.Stock) {
	b.t.Helper()
	came, back, scrapped, sent, shipped := map[string]int{}, map[string]int{}, map[string]int{}, map[string]int{}, map[string]int{}
	for _, a := range b.asked {
		answer, is := b.told[[2]int{a.Client, a.Number}]
		if !is {
			b.t.Fatal("not told:", a)
		}
		if answer.Code != api.OK {
			continue
		}
		to := map[int]map[string]int{api.AskReceive: came, api.AskReturn: back, api.AskScrap: scrapped, api.AskMove: sent}[a.Kind]
		for good, n := range items.All(a.Items) {
			if to != nil {
				to[good] += n
			}
		}
		if a.Kind == api.AskShip {
			s, _ := b.desks[ask.Home(a.Client, len(b.desks))].Saga(a.Order)
			for good, n := range items.All(s.Want) {
				shipped[good] += n
			}
		}
	}
	for _, x := range goods.Totals(stocks) {
		f := x.Flow
		if !goods.Kept(x) || x.Way != 0 || f.Received != came[x.Good] || f.Returned != back[x.Good] || f.Scrapped != scrapped[x.Good] || f.Sent != sent[x.Good] || f.Came != f.Sent || f.Shipped != shipped[x.Good] {
			b.t.Fatal(x, came, back, scrapped, sent, shipped)
		}
	}
}

// wants is something that a client asks for, by chance.
func (b *both) wants(client, n int, made []int) api.Ask {
	r := b.r
	kind := []int{1, 1, 1, 2, 3, 3, 4, 4, 5, 6, 6, 6, 7, 8, 9, 10, 10}[r.Intn(17)]
	a := api.Ask{Client: client, Number: n, Kind: kind}
	l := anyList(r, false)
	if len(l) == 0 {
		l = list("a 1")
	}
	if len(made) == 0 && kind < 6 {
		a.Kind = api.AskOrder
	}
	for _, letter := range ask.Has(a.Kind) {
		switch letter {
		case 'o':
			a.Order = made[r.Intn(len(made))]
		case 'r':
			a.Region = r.Intn(len(b.desks))
		case 't':
			a.To = (a.Region + 1 + r.Intn(7)) % 8
		case 'g':
			a.Good = "b"
		case 'n':
			a.N = r.Intn(2)
			if a.Kind == api.AskCount {
				a.N = r.Intn(9)
			}
		case 'i':
			a.Items = l
		}
	}
	return a
}

// P21.1, P21.2, P22.2: whatever comes in whichever order, all comes to rest; nothing is lost, and nothing is done twice.
func TestMailInAnyOrder(t *testing.T) {
	r := rand.New(rand.NewSource(2122))
	states, codes := map[int]int{}, map[api.Errno]int{}
	for round := range 60 {
		b := among(t, r, 1+round%5)
		made := map[int][]int{}
		for n := 1; n <= 60; n++ {
			client := r.Intn(6)
			a := b.wants(client, n, made[client])
			if o := ask.Order(a); o != 0 {
				made[client] = append(made[client], o)
			}
			b.asked = append(b.asked, a)
			b.ask(a)
			if r.Intn(4) == 0 {
				b.ask(b.asked[r.Intn(len(b.asked))])
			}
			for range r.Intn(12) {
				if len(b.way) > 0 {
					b.deliver()
				}
			}
			if r.Intn(10) == 0 {
				b.rest()
			}
			b.sound()
		}
		b.rest()
		for _, d := range b.desks {
			for s := range d.Sagas() {
				states[s.State]++
			}
		}
		for _, a := range b.told {
			codes[a.Code]++
		}
	}
	for _, state := range []int{api.SagaHeld, api.SagaWaiting, api.SagaRefused, api.SagaGone, api.SagaPicked, api.SagaShipped} {
		if states[state] < 10 {
			t.Error("states:", states)
		}
	}
	for _, e := range []api.Errno{api.OK, api.ErrWait, api.ErrLess, api.ErrNone, api.ErrState, api.ErrOver, api.ErrGood} {
		if codes[e] < 10 {
			t.Error("codes:", codes)
		}
	}
}

// rest has all mail come.
func (b *both) rest() {
	b.t.Helper()
	for rounds := 0; len(b.way) > 0; rounds++ {
		if rounds > 100000 {
			b.t.Fatal("it never ends")
		}
		b.deliver()
	}
	b.quiet()
}
