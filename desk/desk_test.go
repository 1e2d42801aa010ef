package desk_test

import (
	"math"
	"slices"
	"testing"

	"entrepot/api"
	"entrepot/desk"
	"entrepot/posts"
)

// P21.1
func TestNew(t *testing.T) {
	for _, regions := range []int{math.MinInt, -1, 0, 9, 64, math.MaxInt} {
		for me := -1; me < 10; me++ {
			if d, e := desk.New(me, regions); d != nil || e != api.ErrArg {
				t.Error(me, regions, d, e)
			}
		}
	}
	for regions := 1; regions <= 8; regions++ {
		for _, me := range []int{math.MinInt, -1, regions, regions + 1, 8, math.MaxInt} {
			if d, e := desk.New(me, regions); d != nil || e != api.ErrArg {
				t.Error(me, regions, d, e)
			}
		}
		for me := range regions {
			b := at(t, me, regions)
			b.count(0, 0)
			if _, is := b.Saga(number(me, 1)); is || len(slices.Collect(b.Sagas())) != 0 {
				t.Error("sagas:", me, regions)
			}
			b.ask(orders(me, 1, "a 5", 0), regions-1, take(me, number(me, 1), "a 5"))
		}
	}
}

// Example 1.
func TestOneRegion(t *testing.T) {
	b := at(t, 0, 1)
	b.ask(orders(0, 1, "a 5", 1), 0, take(0, 64, "a 5"))
	b.state(64, api.SagaAsking, "", "", 1, 0)
	b.mail(took(64, ""), 0, tells(0, 0, 1, api.ErrWait), posts.News(1)[0])
	b.state(64, api.SagaWaiting, "", "", 0, 1)
	// News of its own: nobody has more, and it is tried in vain, once.
	b.mail(news(), 0, take(0, 64, "a 5"))
	b.mail(took(64, ""), 0)
	b.state(64, api.SagaWaiting, "", "", 0, 1)
}

// each are requests that are posted at once, or wait, of client 4 whose number is 9; each with an order 65 of client 4 that is held in region 1.
func each() []struct {
	a    api.Ask
	want []api.Post
} {
	o := number(4, 1)
	return []struct {
		a    api.Ask
		want []api.Post
	}{
		{orders(4, 9, "a 5, b 1", 1), []api.Post{take(1, number(4, 9), "a 5, b 1")}},
		{orders(4, 9, "a 5", 0), []api.Post{take(1, number(4, 9), "a 5")}},
		{picks(4, 9, o), []api.Post{pick(1, o)}},
		{goods(api.AskReceive, 4, 9, 0, "a 5"), []api.Post{do(0, goods(api.AskReceive, 4, 9, 0, "a 5"))}},
		{goods(api.AskRestock, 4, 9, 1, "a 5"), []api.Post{do(1, goods(api.AskRestock, 4, 9, 1, "a 5"))}},
		{goods(api.AskScrap, 4, 9, 2, "a 5"), []api.Post{do(2, goods(api.AskScrap, 4, 9, 2, "a 5"))}},
		{counts(4, 9, 2, "a", 0), []api.Post{do(2, counts(4, 9, 2, "a", 0))}},
		{moves(4, 9, 2, 0, "a 5"), []api.Post{do(2, moves(4, 9, 2, 0, "a 5"))}},
		{moves(4, 9, 0, 2, "a 5"), []api.Post{do(0, moves(4, 9, 0, 2, "a 5"))}},
		{cancels(4, 9, o), []api.Post{free(1, o)}},
	}
}

// held has an order of client 4's 1 that is held in region 1.
func held(t *testing.T) *bench {
	t.Helper()
	b := at(t, 1, 3)
	o := number(4, 1)
	b.ask(orders(4, 1, "a 3", 0), 2, take(1, o, "a 3"))
	b.mail(took(o, "a 3"), 1, tells(2, 4, 1, api.OK))
	b.state(o, api.SagaHeld, "", "", 0, 0)
	return b
}

// P21.1, P21.2: what is new is done; asked again it is told where it was asked last, once; and then it is told again.
func TestAskedAgain(t *testing.T) {
	for _, c := range each() {
		for from := range 3 {
			for last := range 3 {
				b := held(t)
				b.ask(c.a, from, c.want...)
				b.count(1, 0)
				b.ask(c.a, (last+1)%3)
				b.ask(c.a, last)
				b.count(1, 0)
				b.mail(done(4, 9, api.ErrGood, -7), 2, answers(last, 4, 9, api.ErrGood, -7))
				b.count(0, 0)
				for to := range 3 {
					b.still("again", func() []api.Post { return b.Ask(c.a, to) }, answers(to, 4, 9, api.ErrGood, -7))
				}
				// What is told is told once.
				b.still("done again", func() []api.Post { return b.Mail(done(4, 9, api.OK, 5), 2) })
				b.still("again", func() []api.Post { return b.Ask(c.a, from) }, answers(from, 4, 9, api.ErrGood, -7))
			}
		}
	}
}

// P21.1: a number with another body, whether it is open or done.
func TestClash(t *testing.T) {
	for _, c := range each() {
		for from := range 3 {
			b := held(t)
			b.ask(c.a, 0, c.want...)
			for range 2 {
				for _, other := range append(each(), struct {
					a    api.Ask
					want []api.Post
				}{a: low(4, 9, 2)}) {
					other := other.a
					if other.Kind == c.a.Kind && other.N == c.a.N && other.To == c.a.To {
						other = counts(4, 9, 2, "b", 0)
					}
					b.still("clash", func() []api.Post { return b.Ask(other, from) }, tells(from, 4, 9, api.ErrClash))
				}
				b.Mail(done(4, 9, api.OK, 0), 1)
			}
			b.ask(c.a, from, tells(from, 4, 9, api.OK))
		}
	}
}

// P21.1: a number below the mark, and more numbers than may be known.
func TestStaleAndFull(t *testing.T) {
	b := held(t)
	b.ask(low(4, 10, 10), 0, tells(0, 4, 10, api.OK))
	for _, c := range each() {
		for from := range 3 {
			b.still("stale", func() []api.Post { return b.Ask(c.a, from) }, tells(from, 4, 9, api.ErrStale))
		}
	}
	for n := 11; n < 138; n++ {
		b.ask(low(4, n, 1), 0, tells(0, 4, n, api.OK))
	}
	for _, c := range each() {
		for from := range 3 {
			a := c.a
			a.Number = 500
			b.still("full", func() []api.Post { return b.Ask(a, from) }, tells(from, 4, 500, api.ErrFull))
		}
	}
	// Others have numbers of their own.
	b.ask(low(7, 500, 1), 2, tells(2, 7, 500, api.OK))
	b.ask(low(4, 137, 1), 2, tells(2, 4, 137, api.OK))
}

// P21.1: AskLow.
func TestLow(t *testing.T) {
	b := at(t, 1, 3)
	b.ask(goods(api.AskReceive, 4, 5, 0, "a 1"), 0, do(0, goods(api.AskReceive, 4, 5, 0, "a 1")))
	// It is open itself: a mark above it is refused.
	b.ask(low(4, 1, 2), 2, tells(2, 4, 1, api.ErrState))
	b.ask(low(4, 9, 6), 2, tells(2, 4, 9, api.ErrState))
	b.ask(low(4, 10, 5), 2, tells(2, 4, 10, api.OK))
	b.ask(low(4, 11, 4), 1, tells(1, 4, 11, api.OK))
	b.ask(low(4, 4, 1), 1, tells(1, 4, 4, api.ErrStale))
	b.mail(done(4, 5, api.OK, 0), 0, tells(0, 4, 5, api.OK))
	b.ask(low(4, 12, 12), 0, tells(0, 4, 12, api.OK))
	b.ask(low(4, 12, 12), 2, tells(2, 4, 12, api.OK))
	b.ask(low(4, 11, 4), 1, tells(1, 4, 11, api.ErrStale))
	b.ask(low(4, api.MaxNumber, api.MaxNumber), 1, tells(1, 4, api.MaxNumber, api.OK))
	// Of another client they are known.
	b.ask(low(7, 1, 1), 1, tells(1, 7, 1, api.OK))
	b.count(0, 0)
}

// P21.1, P21.2: the request is told what it was told first, though the mark is not what it was.
func TestRefusedIsToldAgain(t *testing.T) {
	o := number(4, 1)
	for _, c := range []struct {
		a api.Ask
		e api.Errno
	}{
		{cancels(4, 9, number(4, 2)), api.ErrNone}, {picks(4, 9, number(4, 2)), api.ErrNone}, {ships(4, 9, number(4, 2)), api.ErrNone},
		{cancels(7, 9, o), api.ErrNone}, {picks(7, 9, o), api.ErrNone}, {ships(7, 9, o), api.ErrNone},
		{cancels(4, 9, 4), api.ErrNone}, {picks(4, 9, 4), api.ErrNone}, {ships(4, 9, api.MaxOrder), api.ErrNone},
		{returns(4, 9, number(4, 2), 0, "a 1"), api.ErrNone}, {returns(7, 9, o, 0, "a 1"), api.ErrNone}, {returns(7, 9, o, 7, "a 1"), api.ErrNone},
		{returns(4, 9, number(4, 2), 7, "a 1"), api.ErrNone},
		{returns(4, 9, o, 3, "a 1"), api.ErrArg}, {returns(4, 9, o, 7, "b 1"), api.ErrArg},
		{returns(4, 9, o, 0, "a 1"), api.ErrOver}, {returns(4, 9, o, 2, "b 1"), api.ErrOver},
		{ships(4, 9, o), api.ErrState},
		{goods(api.AskReceive, 4, 9, 3, "a 5"), api.ErrArg}, {goods(api.AskRestock, 4, 9, 7, "a 5"), api.ErrArg}, {goods(api.AskScrap, 4, 9, 3, "a 5"), api.ErrArg},
		{counts(4, 9, 3, "a", 0), api.ErrArg}, {counts(4, 9, 7, "a", 0), api.ErrArg},
		{moves(4, 9, 3, 0, "a 5"), api.ErrArg}, {moves(4, 9, 0, 3, "a 5"), api.ErrArg}, {moves(4, 9, 7, 6, "a 5"), api.ErrArg},
		{low(4, 9, 10), api.ErrState},
	} {
		for from := range 3 {
			b := held(t)
			client := c.a.Client
			b.ask(c.a, from, tells(from, client, 9, c.e))
			b.state(o, api.SagaHeld, "", "", 0, 0)
			for to := range 3 {
				b.still("again", func() []api.Post { return b.Ask(c.a, to) }, tells(to, client, 9, c.e))
			}
			b.still("clash", func() []api.Post { return b.Ask(low(client, 9, 1), 0) }, tells(0, client, 9, api.ErrClash))
			// Nothing became of the order.
			b.ask(picks(4, 10, o), 0, pick(1, o))
		}
	}
}

// P21.1: each state with what the saga refuses in it.
func TestSagaRefuses(t *testing.T) {
	o := number(1, 1)
	b := at(t, 1, 3)
	n := 1
	refused := func(e api.Errno, kinds ...int) {
		t.Helper()
		open, waiting := b.Open(), b.Waiting()
		for _, kind := range kinds {
			n++
			b.ask(of(kind, 1, n, o), n%3, tells(n%3, 1, n, e))
			b.count(open, waiting)
		}
	}
	b.ask(orders(1, 1, "a 3", 1), 0, take(1, o, "a 3"))
	refused(api.ErrState, api.AskPick, api.AskShip)
	b.mail(took(o, ""), 1, take(2, o, "a 3"))
	b.mail(took(o, "a 2"), 2, take(0, o, "a 1"))
	b.mail(took(o, ""), 0, free(2, o))
	b.state(o, api.SagaUndoing, "", "", 1, 0)
	refused(api.ErrState, api.AskPick, api.AskShip)
	b.mail(freed(o), 2, told(tells(0, 1, 1, api.ErrWait))...)
	b.state(o, api.SagaWaiting, "", "", 0, 1)
	refused(api.ErrState, api.AskPick, api.AskShip)
	b.mail(news(), 0, take(1, o, "a 3"))
	b.mail(took(o, "a 3"), 1)
	b.state(o, api.SagaHeld, "", "", 0, 0)
	refused(api.ErrState, api.AskShip)
	b.ask(picks(1, 100, o), 0, pick(1, o))
	refused(api.ErrState, api.AskPick, api.AskShip, api.AskCancel)
	b.mail(picked(o, "a 3"), 1, tells(0, 1, 100, api.OK))
	refused(api.ErrState, api.AskPick, api.AskCancel)
	b.ask(ships(1, 101, o), 2, ship(1, o))
	refused(api.ErrState, api.AskPick, api.AskShip, api.AskCancel)
	b.mail(shipped(o, "a 3"), 1, tells(2, 1, 101, api.OK))
	b.state(o, api.SagaShipped, "a 3", "", 0, 0)
	refused(api.ErrState, api.AskPick, api.AskShip, api.AskCancel)
	// Of sagas that were undone.
	o = number(1, 102)
	b.ask(orders(1, 102, "a 3", 0), 0, take(1, o, "a 3"))
	b.mail(took(o, ""), 1, take(2, o, "a 3"))
	b.mail(took(o, ""), 2, take(0, o, "a 3"))
	b.mail(took(o, ""), 0, told(tells(0, 1, 102, api.ErrLess))...)
	b.state(o, api.SagaRefused, "", "", 0, 0)
	refused(api.ErrState, api.AskPick, api.AskShip, api.AskCancel)
	o = number(1, 103)
	b.ask(orders(1, 103, "a 3", 0), 0, take(1, o, "a 3"))
	b.ask(cancels(1, 104, o), 2)
	refused(api.ErrTwice, api.AskCancel)
	b.mail(took(o, "a 1"), 1, free(1, o))
	refused(api.ErrTwice, api.AskCancel)
	refused(api.ErrState, api.AskPick, api.AskShip)
	b.mail(freed(o), 1, append([]api.Post{tells(0, 1, 103, api.ErrNone)}, told(tells(2, 1, 104, api.OK))...)...)
	b.state(o, api.SagaGone, "", "", 0, 0)
	refused(api.ErrState, api.AskPick, api.AskShip, api.AskCancel)
}

// P21.1: nothing of what may not be, of regions that there are not, of clients of another home.
func TestAskOfNothing(t *testing.T) {
	b := held(t)
	o := number(4, 1)
	nothing := func(a api.Ask, from int) {
		t.Helper()
		b.still("nothing", func() []api.Post { return b.Ask(a, from) })
	}
	for _, c := range each() {
		for _, from := range []int{math.MinInt, -1, 3, 4, 7, 8, math.MaxInt} {
			nothing(c.a, from)
		}
		for _, client := range []int{0, 2, 3, 5, 6, 63, 62, 64, 65, 67, -1, -2, -3, math.MinInt, math.MaxInt} {
			a := c.a
			a.Client = client
			nothing(a, 1)
		}
		for _, n := range []int{0, -1, api.MaxNumber + 1, math.MinInt, math.MaxInt} {
			a := c.a
			a.Number = n
			nothing(a, 1)
		}
		for _, kind := range []int{0, -1, 12, math.MaxInt, math.MinInt} {
			a := c.a
			a.Kind = kind
			nothing(a, 1)
		}
	}
	for _, a := range []api.Ask{
		{}, orders(4, 9, "", 0), orders(4, 9, "a 0", 0), orders(4, 9, "b 1, a 1", 0), orders(4, 9, "a 1", 2), orders(4, 9, "a 1", -1),
		cancels(4, 9, 0), picks(4, 9, -1), ships(4, 9, api.MaxOrder+1), returns(4, 9, o, 8, "a 1"), returns(4, 9, o, -1, "a 1"), returns(4, 9, o, 0, ""),
		goods(api.AskReceive, 4, 9, 8, "a 1"), goods(api.AskScrap, 4, 9, 0, "A 1"), counts(4, 9, 0, "", 1), counts(4, 9, 0, "a", -1),
		moves(4, 9, 1, 1, "a 1"), moves(4, 9, 0, 8, "a 1"), low(4, 9, 0), low(4, 9, api.MaxNumber+2),
		{Client: 4, Number: 9, Kind: api.AskCancel, Order: o, N: 1}, {Client: 4, Number: 9, Kind: api.AskLow, N: 1, Items: list("a 1")},
	} {
		nothing(a, 1)
	}
}

// P21.1: nothing of mail that may not be, of regions that there are not, of kinds that no desk is told.
func TestMailOfNothing(t *testing.T) {
	b := held(t)
	o := number(4, 1)
	waiting := number(4, 2)
	b.ask(orders(4, 2, "a 3", 0), 1, take(1, waiting, "a 3"))
	nothing := func(m api.Mail, from int) {
		t.Helper()
		b.still("nothing", func() []api.Post { return b.Mail(m, from) })
	}
	a := low(4, 9, 1)
	for _, m := range []api.Mail{
		{}, {Kind: -1}, {Kind: 15}, {Kind: math.MaxInt},
		{Kind: api.MailAsk, Ask: a}, {Kind: api.MailDo, Ask: a}, {Kind: api.MailAnswer, Answer: api.Answer{Client: 4, Number: 2}},
		items(api.MailTake, waiting, "a 3"), items(api.MailFree, o, ""), items(api.MailPick, o, ""), items(api.MailShip, o, ""), items(api.MailGoods, waiting, "a 3"),
		{Kind: api.MailTook, Order: waiting, Items: list("a 3"), Answer: api.Answer{Client: 4}}, {Kind: api.MailTook, Order: waiting, Items: list("a 0")},
		{Kind: api.MailTook, Order: waiting, Items: list("a 3"), Ask: a}, {Kind: api.MailNews, Order: 1}, took(0, "a 3"), took(api.MaxOrder+1, "a 3"),
		{Kind: api.MailDone, Answer: api.Answer{Client: 4, Number: 2, Code: 1001}}, {Kind: api.MailDone, Answer: api.Answer{Client: 4, Number: 2, Code: -1}},
		{Kind: api.MailDone, Answer: api.Answer{Client: 64, Number: 2}}, {Kind: api.MailDone, Answer: api.Answer{Client: 4, Number: 0}},
		{Kind: api.MailFreed, Order: waiting, Items: list("a 3")},
	} {
		for from := range 3 {
			nothing(m, from)
		}
	}
	for _, from := range []int{math.MinInt, -1, 3, 4, 7, 8, math.MaxInt} {
		for _, m := range []api.Mail{took(waiting, "a 3"), took(waiting, ""), done(4, 2, api.OK, 0), news(), freed(o), picked(o, "a 3"), shipped(o, "a 3")} {
			nothing(m, from)
		}
	}
	// What may be, but says nothing to anybody here.
	for _, m := range []api.Mail{
		done(4, 1, api.OK, 0), done(4, 3, api.OK, 0), done(7, 2, api.OK, 0), done(0, 2, api.OK, 0), took(number(4, 3), "a 3"), took(number(4, 3), ""), freed(number(4, 3)),
		picked(number(4, 3), "a 3"), shipped(number(4, 3), "a 3"), took(o, "a 3"), freed(o), picked(o, "a 3"), shipped(o, "a 3"), news(),
		took(waiting, "a 4"), took(waiting, "b 1"), freed(waiting), picked(waiting, ""), shipped(waiting, ""),
	} {
		for from := range 3 {
			nothing(m, from)
		}
	}
	nothing(took(waiting, "a 3"), 0)
	nothing(took(waiting, "a 3"), 2)
	b.mail(took(waiting, "a 3"), 1, tells(1, 4, 2, api.OK))
}

// P21.1: of a nil Desk.
func TestNilDesk(t *testing.T) {
	var d *desk.Desk
	if d.Ask(low(1, 1, 1), 0) != nil || d.Mail(news(), 0) != nil || d.Open() != 0 || d.Waiting() != 0 || d.Pack() != nil || d.Save() != nil {
		t.Error("something")
	}
	if s, is := d.Saga(65); is || s.Order != 0 || s.Got != nil {
		t.Error(s)
	}
	if p, is := d.Parcel(65); is || p.Order != 0 {
		t.Error(p)
	}
	for s := range d.Sagas() {
		t.Error(s)
	}
}
