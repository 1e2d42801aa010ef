package region_test

import (
	"math"
	"slices"
	"testing"

	"entrepot/api"
	"entrepot/hold"
	"entrepot/lists"
	"entrepot/posts"
	"entrepot/region"
)

const most = api.MaxCount

// P22.1
func TestNew(t *testing.T) {
	for _, regions := range []int{math.MinInt, -1, 0, 9, 64, math.MaxInt} {
		for me := -1; me < 10; me++ {
			if r, e := region.New(me, regions); r != nil || e != api.ErrArg {
				t.Error(me, regions, r, e)
			}
		}
	}
	for regions := 1; regions <= 8; regions++ {
		for _, me := range []int{math.MinInt, -1, regions, regions + 1, 8, math.MaxInt} {
			if r, e := region.New(me, regions); r != nil || e != api.ErrArg {
				t.Error(me, regions, r, e)
			}
		}
		for me := range regions {
			b := at(t, me, regions)
			b.stuck(0)
			if len(slices.Collect(b.Orders())) != 0 || len(slices.Collect(b.Shelf().Goods())) != 0 || !b.Sound() {
				t.Error("something:", me, regions)
			}
			b.mail(do(1, api.AskReceive, "a 5"), regions-1, append([]api.Post{done(regions-1, 1, api.OK, 0)}, posts.News(regions)...)...)
		}
	}
}

// stocked is region 1 of three, with goods that are free.
func stocked(t *testing.T, l string) *bench {
	t.Helper()
	b := at(t, 1, 3)
	b.mail(do(1000, api.AskReceive, l), 0, news(done(0, 1000, api.OK, 0))...)
	return b
}

// Example 1, P22.1
func TestTake(t *testing.T) {
	b := stocked(t, "a 5, b 2, c 1")
	b.mail(take(65, "a 7"), 2, took(2, 65, "a 5"))
	b.hold(65, "a 5", "", "")
	b.level("a", 0, 5, 0, 0)
	// What is held by that alone is told.
	b.mail(take(65, "a 7, b 1"), 0, took(0, 65, "b 1"))
	b.mail(take(65, "b 9, c 9"), 1, took(1, 65, "b 1, c 1"))
	b.hold(65, "a 5, b 2, c 1", "", "")
	b.still(take(65, "a 1"), 1, took(1, 65, ""))
	b.still(take(66, "a 1, d 4"), 1, took(1, 66, ""))
	b.still(take(66, ""), 1, took(1, 66, ""))
	if l := slices.Collect(b.Orders()); len(l) != 1 {
		t.Error(l)
	}
}

// P22.1: where the shelf refuses it, nothing is told to be held.
func TestTakeRefused(t *testing.T) {
	b := stocked(t, "a 9")
	b.mail(take(65, "a 1"), 0, took(0, 65, "a 1"))
	b.mail(pick(65), 0, picked(0, 65, "a 1"))
	b.still(take(65, "a 1"), 2, took(2, 65, ""))
	b.mail(ship(65), 0, shipped(0, 65, "a 1"))
	b.still(take(65, "a 1"), 2, took(2, 65, ""))
	// More than 16 goods for an order.
	b = at(t, 1, 3)
	for i, l := range [][]api.Item{lists.Many(0, 16, 1), lists.Many(16, 4, 1)} {
		m := do(i+1, api.AskReceive, "")
		m.Ask.Items = l
		b.mail(m, 0, news(done(0, i+1, api.OK, 0))...)
		b.Mail(api.Mail{Kind: api.MailTake, Order: 65, Items: l}, 0)
	}
	b.still(api.Mail{Kind: api.MailTake, Order: 65, Items: lists.Many(16, 1, 1)}, 0, took(0, 65, ""))
	if h := b.Hold(65); !slices.Equal(h.Held, lists.Many(0, 16, 1)) {
		t.Error(h)
	}
	// 256 orders, and no more.
	b = stocked(t, "a 300")
	for order := range 256 {
		b.Mail(take(order+1, "a 1"), 0)
	}
	b.still(take(257, "a 1"), 0, took(0, 257, ""))
	b.still(take(257, "b 1"), 0, took(0, 257, ""))
	b.mail(free(9), 0, freed(0, 9))
	b.mail(take(257, "a 1"), 0, took(0, 257, "a 1"))
}

// P22.1
func TestFree(t *testing.T) {
	b := stocked(t, "a 5, b 2")
	b.mail(take(65, "a 4, b 2"), 0, took(0, 65, "a 4, b 2"))
	b.mail(take(68, "a 1"), 0, took(0, 68, "a 1"))
	// Nobody is told that more is free.
	b.mail(free(65), 2, freed(2, 65))
	b.hold(65, "", "", "")
	b.level("a", 4, 1, 0, 0)
	b.level("b", 2, 0, 0, 0)
	b.still(free(65), 2, freed(2, 65))
	b.still(free(1), 0, freed(0, 1))
	b.mail(pick(68), 0, picked(0, 68, "a 1"))
	b.still(free(68), 1, freed(1, 68))
}

// P22.1
func TestPickAndShip(t *testing.T) {
	b := stocked(t, "a 5, b 2")
	b.mail(take(65, "a 4, b 2"), 0, took(0, 65, "a 4, b 2"))
	b.still(ship(65), 0, shipped(0, 65, ""))
	b.mail(pick(65), 2, picked(2, 65, "a 4, b 2"))
	b.hold(65, "", "a 4, b 2", "")
	b.level("a", 1, 0, 4, 0)
	b.still(pick(65), 2, picked(2, 65, ""))
	b.mail(ship(65), 1, shipped(1, 65, "a 4, b 2"))
	b.hold(65, "", "", "a 4, b 2")
	b.level("a", 1, 0, 0, 0)
	b.flow("a", api.Flow{Received: 5, Shipped: 4})
	b.still(ship(65), 1, shipped(1, 65, ""))
	b.still(pick(65), 1, picked(1, 65, ""))
	b.still(pick(66), 0, picked(0, 66, ""))
	b.still(ship(66), 0, shipped(0, 66, ""))
}

// P22.1: what requests do to the stock, from whichever region they come.
func TestDo(t *testing.T) {
	for from := range 3 {
		b := at(t, 1, 3)
		b.mail(do(1, api.AskReceive, "a 5, b 2"), from, news(done(from, 1, api.OK, 0))...)
		b.level("a", 5, 0, 0, 0)
		// Set aside is not free: there is no news.
		b.mail(back(2, 65, "a 3"), from, done(from, 2, api.OK, 0))
		b.level("a", 5, 0, 0, 3)
		b.flow("a", api.Flow{Received: 5, Returned: 3})
		b.mail(do(3, api.AskRestock, "a 1"), from, news(done(from, 3, api.OK, 0))...)
		b.level("a", 6, 0, 0, 2)
		b.mail(do(4, api.AskScrap, "a 2"), from, done(from, 4, api.OK, 0))
		b.level("a", 6, 0, 0, 0)
		b.flow("a", api.Flow{Received: 5, Returned: 3, Scrapped: 2})
		b.mail(count(5, "a", 9), from, news(done(from, 5, api.OK, 3))...)
		b.mail(count(6, "a", 4), from, done(from, 6, api.OK, -5))
		b.mail(count(7, "a", 4), from, done(from, 7, api.OK, 0))
		b.flow("a", api.Flow{Received: 5, Returned: 3, Scrapped: 2, Counted: -2})
		b.mail(send(8, 2, "a 1, b 2"), from, moved(2, 8, "a 1, b 2"), done(from, 8, api.OK, 0))
		b.mail(send(9, 0, "a 3"), from, moved(0, 9, "a 3"), done(from, 9, api.OK, 0))
		b.level("a", 0, 0, 0, 0)
		b.flow("a", api.Flow{Received: 5, Returned: 3, Scrapped: 2, Counted: -2, Sent: 4})
	}
}

// P22.1: what is refused leaves all as it was.
func TestDoRefused(t *testing.T) {
	b := stocked(t, "a 5, b 2")
	b.mail(take(65, "a 4"), 0, took(0, 65, "a 4"))
	b.mail(back(1, 65, "c 3"), 0, done(0, 1, api.OK, 0))
	b.mail(send(2, 2, "b 1"), 0, moved(2, 2, "b 1"), done(0, 2, api.OK, 0))
	full := do(9, api.AskReceive, "")
	for _, c := range []struct {
		m api.Mail
		e api.Errno
	}{
		{do(9, api.AskRestock, "d 1"), api.ErrGood}, {do(9, api.AskRestock, "a 1"), api.ErrLess}, {do(9, api.AskRestock, "c 4"), api.ErrLess},
		{do(9, api.AskScrap, "c 4"), api.ErrLess}, {do(9, api.AskScrap, "c 1, d 1"), api.ErrGood},
		{back(9, 1, "c 1099511627776"), api.ErrOver}, {do(9, api.AskReceive, "a 1099511627776, d 1"), api.ErrOver},
		{count(9, "d", 0), api.ErrGood}, {count(9, "a", 3), api.ErrHeld}, {count(9, "c", most), api.ErrOver},
		{send(9, 2, "a 2"), api.ErrLess}, {send(9, 0, "b 2"), api.ErrLess}, {send(9, 0, "a 1, d 1"), api.ErrGood}, {send(9, 0, "d 1"), api.ErrGood},
		{send(2, 2, "b 1"), api.ErrTwice}, {send(2, 0, "a 9"), api.ErrTwice}, {send(2, 0, "d 1"), api.ErrTwice},
	} {
		for from := range 3 {
			n := c.m.Ask.Number
			b.still(c.m, from, done(from, n, c.e, 0))
		}
	}
	// More goods than a stock knows.
	for i := range 4 {
		full.Ask.Items = lists.Many(16*i, 16, 1)
		b.Mail(full, 0)
	}
	full.Ask.Items = lists.Many(200, 16, 1)
	b.still(full, 2, done(2, 9, api.ErrFull, 0))
	// A move that was refused may be sent later.
	b.mail(send(9, 0, "a 1"), 1, moved(0, 9, "a 1"), done(1, 9, api.OK, 0))
	b.still(send(9, 0, "a 1"), 1, done(1, 9, api.ErrTwice, 0))
}

// P22.1: a move to oneself, which a request from another region may ask for.
func TestSendToOneself(t *testing.T) {
	b := stocked(t, "a 5")
	m := send(9, 1, "a 1")
	m.Ask.Region = 2
	b.still(m, 2, done(2, 9, api.ErrArg, 0))
	// From me, wherever the request says it is from.
	m.Ask.To, m.Ask.Region = 2, 0
	b.mail(m, 2, moved(2, 9, "a 1"), done(2, 9, api.OK, 0))
	b.flow("a", api.Flow{Received: 5, Sent: 1})
}

// P22.1: the number of a move is 64 times Number and Client, up to the greatest.
func TestNumberOfAMove(t *testing.T) {
	b := stocked(t, "a 5")
	for _, c := range [][2]int{{0, 1}, {63, 1}, {0, 2}, {63, api.MaxNumber}} {
		m := send(c[1], 2, "a 1")
		m.Ask.Client = c[0]
		l := b.Mail(m, 0)
		want := []api.Post{post(2, come(64*c[1]+c[0], "a 1")), post(0, api.Mail{Kind: api.MailDone, Answer: api.Answer{Client: c[0], Number: c[1]}})}
		if !posts.Same(l, want) {
			t.Error(posts.Text(l))
		}
	}
	b.again()
}

// P22.1: 256 moves, and no more.
func TestManyMoves(t *testing.T) {
	b := stocked(t, "a 300")
	for n := 1; n <= 256; n++ {
		b.Mail(send(n, 2*(n%2), "a 1"), 0)
	}
	b.still(send(257, 2, "a 1"), 0, done(0, 257, api.ErrFull, 0))
	b.still(send(257, 2, "a 99"), 0, done(0, 257, api.ErrFull, 0))
	b.still(send(256, 2, "a 1"), 0, done(0, 256, api.ErrTwice, 0))
	b.level("a", 44, 0, 0, 0)
	b.flow("a", api.Flow{Received: 300, Sent: 256})
}

// P22.1: of other kinds ErrArg.
func TestDoOfOtherKinds(t *testing.T) {
	b := stocked(t, "a 5")
	b.mail(take(65, "a 2"), 0, took(0, 65, "a 2"))
	for _, a := range []api.Ask{
		{Client: 3, Number: 4, Kind: api.AskOrder, Items: list("a 1")}, {Client: 3, Number: 4, Kind: api.AskOrder, N: 1, Items: list("a 1")},
		{Client: 3, Number: 4, Kind: api.AskCancel, Order: 65}, {Client: 3, Number: 4, Kind: api.AskPick, Order: 65},
		{Client: 3, Number: 4, Kind: api.AskShip, Order: 65}, {Client: 3, Number: 4, Kind: api.AskLow, N: 9},
	} {
		for from := range 3 {
			b.still(api.Mail{Kind: api.MailDo, Ask: a}, from, done(from, 4, api.ErrArg, 0))
		}
	}
}

// P22.1: nothing of what may not be, of regions that there are not, of mail that no region is told.
func TestMailOfNothing(t *testing.T) {
	b := stocked(t, "a 5")
	b.mail(take(65, "a 2"), 0, took(0, 65, "a 2"))
	a := do(1, api.AskReceive, "a 1").Ask
	for _, m := range []api.Mail{
		{}, {Kind: -1}, {Kind: 15}, {Kind: math.MaxInt}, {Kind: api.MailNews}, {Kind: api.MailAsk, Ask: a},
		{Kind: api.MailAnswer, Answer: api.Answer{Client: 3, Number: 1}}, {Kind: api.MailDone, Answer: api.Answer{Client: 3, Number: 1}},
		about(api.MailTook, 65, "a 1"), about(api.MailFreed, 65, ""), about(api.MailPicked, 65, "a 2"), about(api.MailShipped, 65, "a 2"),
		take(0, "a 1"), take(api.MaxOrder+1, "a 1"), take(66, "a 0"), take(66, "b 1, a 1"), free(0), pick(-1), ship(0), come(0, "a 1"), come(5, "a 0"),
		about(api.MailFree, 65, "a 1"), {Kind: api.MailTake, Order: 66, Items: list("a 1"), Ask: a}, {Kind: api.MailDo, Order: 1, Ask: a}, {Kind: api.MailDo},
		do(0, api.AskReceive, "a 1"), do(1, api.AskReceive, ""), do(1, api.AskReceive, "A 1"), send(1, 1, "a 1"), send(1, 8, "a 1"), count(1, "", 1), count(1, "a", -1),
	} {
		for from := range 3 {
			b.still(m, from)
		}
	}
	for _, from := range []int{math.MinInt, -1, 3, 4, 7, 8, math.MaxInt} {
		for _, m := range []api.Mail{take(66, "a 1"), free(65), pick(65), ship(65), do(1, api.AskReceive, "a 1"), send(1, 2, "a 1"), come(5, "a 1")} {
			b.still(m, from)
		}
	}
}

// P22.1: goods that come are free, and all are told.
func TestGoods(t *testing.T) {
	b := at(t, 1, 3)
	b.mail(come(99, "a 5, b 1"), 2, posts.News(3)...)
	b.level("a", 5, 0, 0, 0)
	b.flow("a", api.Flow{Came: 5})
	b.stuck(0)
	// Of nothing there is no news; nor does the number tell anything.
	b.still(come(99, ""), 2)
	b.mail(come(99, "a 5, b 1"), 0, posts.News(3)...)
	b.flow("a", api.Flow{Came: 10})
	b.mail(come(1<<40, "c 1"), 1, posts.News(3)...)
}

// crowded is region 1 of three with nearly as much of a as there may be, some of it held and set aside.
func crowded(t *testing.T) *bench {
	t.Helper()
	b := at(t, 1, 3)
	m := do(1000, api.AskReceive, "")
	m.Ask.Items = []api.Item{{Good: "a", N: most - 10}, {Good: "b", N: 5}}
	b.mail(m, 0, news(done(0, 1000, api.OK, 0))...)
	b.mail(back(1001, 1, "a 5"), 0, done(0, 1001, api.OK, 0))
	b.mail(take(65, "a 100"), 0, took(0, 65, "a 100"))
	return b
}

// P22.1: what could not be put away stays, list by list, and is tried behind each MailDo and MailGoods, the first ones first.
func TestStuck(t *testing.T) {
	b := crowded(t)
	// There is room for 5 more of a.
	b.mail(come(1, "a 6"), 2)
	b.mail(come(2, "a 8, b 1"), 2)
	b.mail(come(3, "a 2"), 0, posts.News(3)...)
	b.stuck(2)
	b.mail(come(4, "a 4, c 1"), 0)
	b.mail(come(5, "d 1"), 0, posts.News(3)...)
	b.stuck(3)
	b.level("c", 0, 0, 0, 0)
	// Behind other mail they are not tried, though there is room.
	b.mail(pick(65), 0, picked(0, 65, "a 100"))
	b.mail(ship(65), 0, shipped(0, 65, "a 100"))
	b.stuck(3)
	b.mail(take(66, "a 1"), 0, took(0, 66, "a 1"))
	b.mail(free(66), 0, freed(0, 66))
	b.stuck(3)
	b.still(api.Mail{Kind: api.MailNews}, 0)
	b.still(do(0, api.AskScrap, "a 1"), 0)
	b.still(take(0, "a 1"), 0)
	b.stuck(3)
	// Behind a request that is refused they are: there is more free, of which all are told.
	b.mail(do(7, api.AskScrap, "a 6"), 2, news(done(2, 7, api.ErrLess, 0))...)
	b.stuck(0)
	b.level("c", 1, 0, 0, 0)
	b.flow("a", api.Flow{Received: most - 10, Returned: 5, Came: 20, Shipped: 100})
}

// P22.1: each is tried once, in order: a later one may be put away where an earlier one has no room.
func TestStuckInOrder(t *testing.T) {
	b := crowded(t)
	for i, l := range []string{"a 6", "a 7", "a 8", "a 9"} {
		b.mail(come(i+1, l), 2)
	}
	b.stuck(4)
	// Room for 10: the first one, and none of the others.
	b.mail(do(1, api.AskScrap, "a 5"), 0, news(done(0, 1, api.OK, 0))...)
	b.stuck(3)
	b.flow("a", api.Flow{Received: most - 10, Returned: 5, Came: 6, Scrapped: 5})
	// Room for 4, and 4 more: 7 of it are the second one's.
	b.mail(send(2, 0, "a 4"), 0, append([]api.Post{moved(0, 2, "a 4")}, news(done(0, 2, api.OK, 0))...)...)
	b.stuck(2)
	// Room for 1: the one that came last is put away.
	b.mail(come(9, "a 2"), 0)
	b.mail(come(10, "a 1"), 0, posts.News(3)...)
	b.stuck(3)
	b.flow("a", api.Flow{Received: most - 10, Returned: 5, Came: 14, Scrapped: 5, Sent: 4})
}

// P22.1: a list that is refused stays, and so do the ones behind it in their order.
func TestStuckStays(t *testing.T) {
	b := crowded(t)
	for i, l := range []string{"a 8", "a 6, b 1", "a 7"} {
		b.mail(come(i+1, l), 2)
	}
	want := b.Save()
	b.still(do(9, api.AskScrap, "a 9"), 0, done(0, 9, api.ErrLess, 0))
	// 7 fit: neither the first nor, of what comes behind it, more than one.
	b.mail(do(1, api.AskScrap, "a 2"), 0, news(done(0, 1, api.OK, 0))...)
	b.stuck(2)
	b.flow("b", api.Flow{Received: 5, Came: 1})
	b.flow("a", api.Flow{Received: most - 10, Returned: 5, Scrapped: 2, Came: 6})
	if len(b.Save()) >= len(want) {
		t.Error(b.Save())
	}
}

// P22.1: when there is news: of some good more is free behind all than ahead.
func TestNews(t *testing.T) {
	b := crowded(t)
	b.mail(come(1, "a 8"), 2)
	// 9 go, and 8 come: less is free.
	b.mail(send(1, 0, "a 9"), 0, moved(0, 1, "a 9"), done(0, 1, api.OK, 0))
	b.stuck(0)
	b.mail(come(2, "a 9"), 2)
	b.stuck(1)
	// As many come as go.
	b.mail(send(2, 0, "a 9"), 0, moved(0, 2, "a 9"), done(0, 2, api.OK, 0))
	b.stuck(0)
	b.mail(come(3, "a 8"), 2)
	b.stuck(1)
	// One more comes than goes.
	b.mail(send(3, 0, "a 7"), 0, append([]api.Post{moved(0, 3, "a 7")}, news(done(0, 3, api.OK, 0))...)...)
	b.stuck(0)
	// Less of one, and more of another.
	b.mail(come(4, "a 9, b 1"), 2)
	b.stuck(1)
	b.mail(send(4, 0, "a 9, b 1"), 0, moved(0, 4, "a 9, b 1"), done(0, 4, api.OK, 0))
	b.mail(come(5, "a 9, c 1"), 2)
	b.mail(send(5, 0, "a 9, b 1"), 0, append([]api.Post{moved(0, 5, "a 9, b 1")}, news(done(0, 5, api.OK, 0))...)...)
	b.stuck(0)
	// A count that tells more, one that tells as many, and one that tells fewer.
	b.mail(count(6, "b", 7), 0, news(done(0, 6, api.OK, 3))...)
	b.mail(count(7, "b", 7), 0, done(0, 7, api.OK, 0))
	b.mail(count(8, "b", 6), 0, done(0, 8, api.OK, -1))
}

// P22.1: of a nil Region.
func TestNilRegion(t *testing.T) {
	var r *region.Region
	if r.Mail(come(1, "a 1"), 0) != nil || r.Mail(take(1, "a 1"), 0) != nil || r.Shelf() != nil || r.Sound() || r.Stuck() != 0 || r.Pack() != nil || r.Save() != nil {
		t.Error("something")
	}
	if h := r.Hold(5); !sameHold(h, api.Hold{}) {
		t.Error(h)
	}
	for h := range r.Orders() {
		t.Error(h)
	}
}

// P22.1: Shelf's stock is another one that is the same; Pack is the shelf's.
func TestShelf(t *testing.T) {
	b := stocked(t, "a 5")
	b.mail(take(65, "a 2"), 0, took(0, 65, "a 2"))
	s := hold.New()
	s.Do(api.DoReceive, list("a 5"))
	s.Take(65, list("a 2"))
	if string(b.Pack()) != string(s.Pack()) || string(b.Shelf().Pack()) != string(s.Stock().Pack()) {
		t.Errorf("%q", b.Pack())
	}
	x, y := b.Shelf(), b.Shelf()
	if x == y || x.Do(api.DoReceive, list("a 5, z 1")) != api.OK {
		t.Error("not another one")
	}
	b.level("a", 3, 2, 0, 0)
	if l := y.Level("a"); l.Free != 3 {
		t.Error(l)
	}
	b.mail(take(65, "a 2"), 0, took(0, 65, "a 2"))
	if l := y.Level("a"); l.Free != 3 {
		t.Error(l)
	}
}

// P22.1, R5
func TestOrders(t *testing.T) {
	b := stocked(t, "a 50")
	all := b.Orders()
	for h := range all {
		t.Error(h)
	}
	for _, order := range []int{700, 1 << 40, 3, 65} {
		b.mail(take(order, "a 2"), 0, took(0, order, "a 2"))
	}
	for range 5 {
		var l []int
		for h := range all {
			l = append(l, h.Order)
			if !sameHold(h, api.Hold{Order: h.Order, Held: list("a 2")}) {
				t.Error(h)
			}
		}
		if !slices.Equal(l, []int{3, 65, 700, 1 << 40}) {
			t.Error(l)
		}
	}
	for h := range all {
		if h.Order != 3 {
			t.Error(h)
		}
		break
	}
	if h := b.Hold(9); !sameHold(h, api.Hold{Order: 9}) {
		t.Error(h)
	}
}

// R3: what is handed in is not kept, and answers share nothing.
func TestSharesNothing(t *testing.T) {
	b := crowded(t)
	ruin := func(l []api.Item) {
		l = l[:cap(l)]
		for i := range l {
			l[i] = api.Item{Good: "ruin", N: 99}
		}
	}
	for _, m := range []api.Mail{
		take(66, "a 1, b 2"), come(1, "a 6, b 1"), send(1, 0, "a 1, b 1"), come(2, "a 6, c 1"), pick(66), ship(66), do(2, api.AskReceive, "d 1, e 2"), take(67, "d 1, e 1"), free(67), take(67, "a 1, d 1"),
	} {
		twin := b.again()
		l := b.Mail(m, 0)
		for _, p := range l {
			ruin(p.Mail.Items)
			ruin(p.Mail.Ask.Items)
		}
		other := twin.Mail(api.Mail{Kind: m.Kind, Order: m.Order, Items: slices.Clone(m.Items), Ask: m.Ask}, 0)
		ruin(m.Items)
		for h := range b.Orders() {
			ruin(h.Held)
			ruin(h.Picked)
			ruin(h.Shipped)
		}
		ruin(m.Ask.Items)
		alike(t, b.Region, twin)
		// What was posted stays, whatever comes behind.
		before := posts.Text(other)
		twin.Mail(do(99, api.AskReceive, "f 1"), 0)
		twin.Mail(pick(67), 0)
		if posts.Text(other) != before {
			t.Error(before, posts.Text(other))
		}
	}
	b.stuck(1)
	m := come(3, "a 9, z 7")
	behind := m.Items
	m.Items = behind[:1]
	b.mail(m, 0)
	if behind[1] != list("z 7")[0] {
		t.Error(behind)
	}
}
