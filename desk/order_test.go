package desk_test

import (
	"slices"
	"testing"

	"entrepot/api"
	"entrepot/posts"
)

// P21.1: all in the first region.
func TestOrderHeldAtOnce(t *testing.T) {
	b := at(t, 1, 3)
	o := number(4, 7)
	b.ask(orders(4, 7, "a 5, b 2", 0), 0, take(1, o, "a 5, b 2"))
	b.state(o, api.SagaAsking, "", "", 1, 0)
	b.mail(took(o, "a 5, b 2"), 1, tells(0, 4, 7, api.OK))
	b.state(o, api.SagaHeld, "", "", 0, 0)
	b.ask(picks(4, 8, o), 2, pick(1, o))
	b.state(o, api.SagaPicking, "", "", 1, 0)
	b.mail(picked(o, "a 5, b 2"), 1, tells(2, 4, 8, api.OK))
	b.state(o, api.SagaPicked, "", "", 0, 0)
	b.ask(ships(4, 9, o), 1, ship(1, o))
	b.state(o, api.SagaShipping, "", "", 1, 0)
	b.mail(shipped(o, "a 5, b 2"), 1, tells(1, 4, 9, api.OK))
	b.state(o, api.SagaShipped, "a 5, b 2", "", 0, 0)
	for _, m := range []api.Mail{took(o, "a 5"), freed(o), picked(o, "a 5, b 2"), shipped(o, "a 5, b 2")} {
		b.still("behind its end", func() []api.Post { return b.Mail(m, 1) })
	}
}

// split has an order of client 1's 1 that is held in all three regions, and asked by client 1 in region 2.
func split(t *testing.T) *bench {
	t.Helper()
	b := at(t, 1, 3)
	b.ask(orders(1, 1, "a 6, b 2", 1), 2, take(1, 65, "a 6, b 2"))
	b.mail(took(65, "a 1, b 1"), 1, take(2, 65, "a 5, b 1"))
	b.mail(took(65, "a 2"), 2, take(0, 65, "a 3, b 1"))
	b.mail(took(65, "a 3, b 1"), 0, tells(2, 1, 1, api.OK))
	b.state(65, api.SagaHeld, "", "", 0, 0)
	return b
}

// P21.1: split among three, picked and shipped by each; what was shipped is put into the parcel as it is told.
func TestOrderSplit(t *testing.T) {
	b := split(t)
	b.ask(picks(1, 2, 65), 0, pick(0, 65), pick(1, 65), pick(2, 65))
	b.mail(picked(65, "a 1, b 1"), 1)
	b.mail(picked(65, "a 3, b 1"), 0)
	b.state(65, api.SagaPicking, "", "", 1, 0)
	b.still("twice", func() []api.Post { return b.Mail(picked(65, "a 3, b 1"), 0) })
	b.still("less", func() []api.Post { return b.Mail(picked(65, "a 1"), 2) })
	b.mail(picked(65, "a 2"), 2, tells(0, 1, 2, api.OK))
	b.ask(ships(1, 3, 65), 1, ship(0, 65), ship(1, 65), ship(2, 65))
	b.mail(shipped(65, "a 2"), 2)
	b.state(65, api.SagaShipping, "a 2", "", 1, 0)
	b.still("twice", func() []api.Post { return b.Mail(shipped(65, "a 2"), 2) })
	b.still("more", func() []api.Post { return b.Mail(shipped(65, "a 2, b 1"), 1) })
	b.mail(shipped(65, "a 1, b 1"), 1)
	b.state(65, api.SagaShipping, "a 3, b 1", "", 1, 0)
	b.mail(shipped(65, "a 3, b 1"), 0, tells(1, 1, 3, api.OK))
	b.state(65, api.SagaShipped, "a 6, b 2", "", 0, 0)
}

// shippedOrder has the order of split shipped from region 0 and 2, and not from region 1 yet.
func shippedOrder(t *testing.T) *bench {
	t.Helper()
	b := split(t)
	b.ask(picks(1, 2, 65), 0, pick(0, 65), pick(1, 65), pick(2, 65))
	b.mail(picked(65, "a 3, b 1"), 0)
	b.mail(picked(65, "a 1, b 1"), 1)
	b.mail(picked(65, "a 2"), 2, tells(0, 1, 2, api.OK))
	b.ask(ships(1, 3, 65), 0, ship(0, 65), ship(1, 65), ship(2, 65))
	b.mail(shipped(65, "a 3, b 1"), 0)
	b.mail(shipped(65, "a 2"), 2)
	b.state(65, api.SagaShipping, "a 5, b 1", "", 1, 0)
	return b
}

// P21.1: what is to come back is back at once, and is not, if the region refuses it.
func TestReturn(t *testing.T) {
	b := shippedOrder(t)
	b.ask(returns(1, 4, 65, 2, "a 6"), 0, tells(0, 1, 4, api.ErrOver))
	b.ask(returns(1, 5, 65, 2, "a 3, b 1"), 0, do(2, returns(1, 5, 65, 2, "a 3, b 1")))
	b.state(65, api.SagaShipping, "a 5, b 1", "a 3, b 1", 2, 0)
	b.ask(returns(1, 6, 65, 1, "a 3"), 0, tells(0, 1, 6, api.ErrOver))
	b.ask(returns(1, 7, 65, 1, "b 1"), 1, tells(1, 1, 7, api.ErrOver))
	b.ask(returns(1, 8, 65, 1, "a 2"), 1, do(1, returns(1, 8, 65, 1, "a 2")))
	b.state(65, api.SagaShipping, "a 5, b 1", "a 5, b 1", 3, 0)
	b.mail(done(1, 5, api.ErrFull, 0), 2, tells(0, 1, 5, api.ErrFull))
	b.state(65, api.SagaShipping, "a 5, b 1", "a 2", 2, 0)
	b.mail(done(1, 8, api.OK, 0), 1, tells(1, 1, 8, api.OK))
	b.state(65, api.SagaShipping, "a 5, b 1", "a 2", 1, 0)
	b.still("told already", func() []api.Post { return b.Mail(done(1, 8, api.ErrFull, 0), 1) })
	b.still("told already", func() []api.Post { return b.Mail(done(1, 5, api.ErrFull, 0), 2) })
	b.mail(shipped(65, "a 1, b 1"), 1, tells(0, 1, 3, api.OK))
	b.ask(returns(1, 9, 65, 0, "a 4, b 2"), 2, do(0, returns(1, 9, 65, 0, "a 4, b 2")))
	b.state(65, api.SagaShipped, "a 6, b 2", "a 6, b 2", 1, 0)
	b.mail(done(1, 9, api.OK, 3), 0, answers(2, 1, 9, api.OK, 3))
	b.state(65, api.SagaShipped, "a 6, b 2", "a 6, b 2", 0, 0)
	// Of other requests nothing is back, whatever they are told.
	b.ask(goods(api.AskScrap, 1, 10, 0, "a 1"), 0, do(0, goods(api.AskScrap, 1, 10, 0, "a 1")))
	b.mail(done(1, 10, api.ErrLess, 0), 0, tells(0, 1, 10, api.ErrLess))
	b.state(65, api.SagaShipped, "a 6, b 2", "a 6, b 2", 0, 0)
}

// P21.1: of each code but OK.
func TestReturnRefused(t *testing.T) {
	for _, e := range []api.Errno{1, 2, 3, 4, 5, 6, 10, 50, 51, 60, 70, 71, 999, 1000} {
		for from := range 3 {
			b := shippedOrder(t)
			b.ask(returns(1, 4, 65, 2, "a 3, b 1"), 0, do(2, returns(1, 4, 65, 2, "a 3, b 1")))
			b.ask(returns(1, 5, 65, 2, "a 1"), 0, do(2, returns(1, 5, 65, 2, "a 1")))
			b.mail(done(1, 4, e, -9), from, answers(0, 1, 4, e, -9))
			b.state(65, api.SagaShipping, "a 5, b 1", "a 1", 2, 0)
		}
	}
}

// P21.1: not all is there, and it may not wait.
func TestOrderRefused(t *testing.T) {
	b := at(t, 1, 3)
	b.ask(orders(1, 1, "a 6", 0), 0, take(1, 65, "a 6"))
	b.mail(took(65, "a 1"), 1, take(2, 65, "a 5"))
	b.mail(took(65, ""), 2, take(0, 65, "a 5"))
	b.mail(took(65, "a 4"), 0, free(0, 65), free(1, 65))
	b.state(65, api.SagaUndoing, "", "", 1, 0)
	b.mail(freed(65), 1)
	b.still("twice", func() []api.Post { return b.Mail(freed(65), 1) })
	b.still("of no holder", func() []api.Post { return b.Mail(freed(65), 2) })
	b.mail(freed(65), 0, told(tells(0, 1, 1, api.ErrLess))...)
	b.state(65, api.SagaRefused, "", "", 0, 0)
	b.still("news", func() []api.Post { return b.Mail(news(), 0) })
}

// P21.1, P21.2: it waits, is tried by each news, and holds nothing meanwhile.
func TestOrderWaits(t *testing.T) {
	b := at(t, 1, 3)
	b.ask(orders(1, 1, "a 6", 1), 0, take(1, 65, "a 6"))
	b.mail(took(65, ""), 1, take(2, 65, "a 6"))
	b.mail(took(65, ""), 2, take(0, 65, "a 6"))
	b.mail(took(65, ""), 0, told(tells(0, 1, 1, api.ErrWait))...)
	b.state(65, api.SagaWaiting, "", "", 0, 1)
	for from := range 3 {
		b.mail(news(), from, take(1, 65, "a 6"))
		b.state(65, api.SagaAsking, "", "", 0, 1)
		b.still("news while it is tried", func() []api.Post { return b.Mail(news(), from) })
		b.mail(took(65, "a 2"), 1, take(2, 65, "a 4"))
		b.mail(took(65, ""), 2, take(0, 65, "a 4"))
		b.mail(took(65, ""), 0, free(1, 65))
		b.state(65, api.SagaUndoing, "", "", 0, 1)
		// It was in vain: no news, and it is told to nobody.
		b.mail(freed(65), 1)
		b.state(65, api.SagaWaiting, "", "", 0, 1)
		if s, _ := b.Saga(65); len(slices.Concat(s.Got...)) != 0 {
			t.Error(s)
		}
	}
	b.mail(news(), 2, take(1, 65, "a 6"))
	b.mail(took(65, "a 2"), 1, take(2, 65, "a 4"))
	b.mail(took(65, "a 4"), 2)
	b.state(65, api.SagaHeld, "", "", 0, 0)
	b.still("news", func() []api.Post { return b.Mail(news(), 0) })
	b.ask(picks(1, 2, 65), 0, pick(1, 65), pick(2, 65))
}

// P21.1: asked again while it waits, it is told what it was told.
func TestOrderWaitsIsToldAgain(t *testing.T) {
	b := waiting(t, 1)
	b.ask(orders(1, 1, "a 6", 1), 2, tells(2, 1, 1, api.ErrWait))
	b.mail(news(), 2, take(1, 65, "a 6"))
	b.mail(took(65, "a 6"), 1)
	b.state(65, api.SagaHeld, "", "", 0, 0)
	b.ask(orders(1, 1, "a 6", 1), 2, tells(2, 1, 1, api.ErrWait))
	b.state(65, api.SagaHeld, "", "", 0, 0)
}

// waiting has orders of client 1's first numbers that wait for 6 of a.
func waiting(t *testing.T, many int) *bench {
	t.Helper()
	b := at(t, 1, 3)
	for n := 1; n <= many; n++ {
		o := number(1, n)
		b.ask(orders(1, n, "a 6", 1), 0, take(1, o, "a 6"))
		b.mail(took(o, ""), 1, take(2, o, "a 6"))
		b.mail(took(o, ""), 2, take(0, o, "a 6"))
		b.mail(took(o, ""), 0, told(tells(0, 1, n, api.ErrWait))...)
		b.count(0, n)
	}
	return b
}

// vain tries an order of waiting in vain; what comes behind that is posted last.
func (b *bench) vain(o int, behind ...api.Post) {
	b.t.Helper()
	b.mail(took(o, ""), 1, take(2, o, "a 6"))
	b.mail(took(o, ""), 2, take(0, o, "a 6"))
	b.mail(took(o, ""), 0, behind...)
}

// P21.1: one is tried after the other, the first one first, each once for each news.
func TestBacklog(t *testing.T) {
	b := waiting(t, 4)
	first, second, third, fourth := number(1, 1), number(1, 2), number(1, 3), number(1, 4)
	b.mail(news(), 0, take(1, first, "a 6"))
	b.vain(first, take(1, second, "a 6"))
	b.vain(second, take(1, third, "a 6"))
	// News now is of all but the third: it is tried already, and the others once more.
	b.mail(news(), 0)
	b.mail(news(), 2)
	b.vain(third, take(1, first, "a 6"))
	b.mail(took(first, "a 6"), 1, take(1, second, "a 6"))
	b.count(0, 3)
	b.vain(second, take(1, fourth, "a 6"))
	b.vain(fourth)
	b.count(0, 3)
	b.mail(news(), 1, take(1, second, "a 6"))
	b.mail(took(second, "a 6"), 1, take(1, third, "a 6"))
	b.mail(took(third, "a 6"), 1, take(1, fourth, "a 6"))
	b.mail(took(fourth, "a 6"), 1)
	b.count(0, 0)
}

// P21.1: an order that begins to wait while another one is tried comes behind it.
func TestBacklogGrows(t *testing.T) {
	b := waiting(t, 1)
	b.mail(news(), 0, take(1, 65, "a 6"))
	o := number(4, 3)
	b.ask(orders(4, 3, "b 1", 1), 2, take(1, o, "b 1"))
	b.mail(took(o, ""), 1, take(2, o, "b 1"))
	b.mail(took(o, ""), 2, take(0, o, "b 1"))
	b.mail(took(o, ""), 0, told(tells(2, 4, 3, api.ErrWait))...)
	b.count(0, 2)
	b.vain(65)
	b.mail(news(), 1, take(1, 65, "a 6"))
	b.vain(65, take(1, o, "b 1"))
	// Others come to their ends meanwhile: one that is tried is not tried anew.
	b.ask(orders(7, 1, "c 1", 0), 2, take(1, number(7, 1), "c 1"))
	b.mail(news(), 1)
	b.mail(took(number(7, 1), "c 1"), 1, tells(2, 7, 1, api.OK))
	b.mail(took(o, "b 1"), 1, take(1, 65, "a 6"))
	b.count(0, 1)
}

// P21.1: cancelled while it is asked for, with what was held till then, and with nothing.
func TestCancelWhileAsking(t *testing.T) {
	for _, waits := range []int{0, 1} {
		for _, answer := range []string{"", "a 2", "a 6"} {
			b := at(t, 1, 3)
			b.ask(orders(1, 1, "a 6", waits), 0, take(1, 65, "a 6"))
			b.ask(cancels(1, 2, 65), 2)
			b.state(65, api.SagaAsking, "", "", 2, 0)
			ends := append([]api.Post{tells(0, 1, 1, api.ErrNone)}, told(tells(2, 1, 2, api.OK))...)
			if answer == "" {
				b.mail(took(65, answer), 1, ends...)
			} else {
				b.mail(took(65, answer), 1, free(1, 65))
				b.ask(cancels(1, 3, 65), 2, tells(2, 1, 3, api.ErrTwice))
				b.mail(freed(65), 1, ends...)
			}
			b.state(65, api.SagaGone, "", "", 0, 0)
		}
	}
}

// P21.1: cancelled while it is undone: it neither waits nor is refused.
func TestCancelWhileUndoing(t *testing.T) {
	for _, waits := range []int{0, 1} {
		b := at(t, 1, 3)
		b.ask(orders(1, 1, "a 6", waits), 0, take(1, 65, "a 6"))
		b.mail(took(65, "a 2"), 1, take(2, 65, "a 4"))
		b.mail(took(65, "a 1"), 2, take(0, 65, "a 3"))
		b.mail(took(65, ""), 0, free(1, 65), free(2, 65))
		b.mail(freed(65), 2)
		b.ask(cancels(1, 2, 65), 2)
		b.mail(freed(65), 1, append([]api.Post{tells(0, 1, 1, api.ErrNone)}, told(tells(2, 1, 2, api.OK))...)...)
		b.state(65, api.SagaGone, "", "", 0, 0)
	}
}

// P21.1: cancelled when all is held.
func TestCancelWhatIsHeld(t *testing.T) {
	b := split(t)
	b.ask(cancels(1, 2, 65), 0, free(0, 65), free(1, 65), free(2, 65))
	b.state(65, api.SagaUndoing, "", "", 1, 0)
	b.mail(freed(65), 2)
	b.mail(freed(65), 0)
	b.mail(freed(65), 1, told(tells(0, 1, 2, api.OK))...)
	b.state(65, api.SagaGone, "", "", 0, 0)
}

// P21.1: cancelled while it waits: it is told at once, and is not in the backlog any more.
func TestCancelWhatWaits(t *testing.T) {
	b := waiting(t, 3)
	b.ask(cancels(1, 9, number(1, 2)), 1, told(tells(1, 1, 9, api.OK))...)
	b.state(number(1, 2), api.SagaGone, "", "", 0, 2)
	b.mail(news(), 0, take(1, number(1, 1), "a 6"))
	b.vain(number(1, 1), take(1, number(1, 3), "a 6"))
}

// P21.1: cancelled while it is tried: the next one is tried behind the news.
func TestCancelWhatIsTried(t *testing.T) {
	b := waiting(t, 3)
	b.mail(news(), 0, take(1, 65, "a 6"))
	b.ask(cancels(1, 9, 65), 1)
	b.state(65, api.SagaAsking, "", "", 1, 3)
	b.mail(took(65, ""), 1, told(tells(1, 1, 9, api.OK), take(1, number(1, 2), "a 6"))...)
	b.state(65, api.SagaGone, "", "", 0, 2)
	// And one that is not: one is out already.
	b.ask(cancels(1, 10, number(1, 3)), 2, told(tells(2, 1, 10, api.OK))...)
	b.vain(number(1, 2))
	b.count(0, 1)
}

// P21.1: at most 128 sagas, over or not; the number is used up.
func TestMaxSagas(t *testing.T) {
	b := at(t, 1, 3)
	for n := 1; n <= 64; n++ {
		for _, client := range []int{1, 4} {
			b.Ask(orders(client, n, "a 1", 0), 0)
			if n%2 == 0 {
				b.Mail(took(number(client, n), "a 1"), 1)
			}
		}
	}
	if l := slices.Collect(b.Sagas()); len(l) != 128 || l[127].Order != number(4, 64) || b.Open() != 64 {
		t.Fatal(len(l), b.Open())
	}
	b.ask(orders(1, 65, "a 1", 0), 2, tells(2, 1, 65, api.ErrFull))
	b.ask(orders(7, 1, "a 1", 1), 2, tells(2, 7, 1, api.ErrFull))
	b.ask(orders(7, 1, "a 1", 1), 0, tells(0, 7, 1, api.ErrFull))
	b.ask(cancels(7, 2, number(7, 1)), 0, tells(0, 7, 2, api.ErrNone))
	b.ask(goods(api.AskReceive, 7, 3, 0, "a 1"), 0, do(0, goods(api.AskReceive, 7, 3, 0, "a 1")))
	b.count(65, 0)
	if _, is := b.Saga(number(7, 1)); is {
		t.Error("there is one")
	}
	if _, is := b.Parcel(number(7, 1)); is {
		t.Error("there is one")
	}
}

// P21.1: MailDone says it of whatever request is open; one that waits for an order waits no more.
func TestDoneOfOneThatWaits(t *testing.T) {
	b := at(t, 1, 3)
	b.ask(orders(1, 1, "a 6", 1), 0, take(1, 65, "a 6"))
	b.ask(cancels(1, 2, 65), 2)
	b.mail(done(1, 1, api.ErrGood, 5), 2, answers(0, 1, 1, api.ErrGood, 5))
	b.state(65, api.SagaAsking, "", "", 1, 0)
	b.mail(took(65, ""), 1, told(tells(2, 1, 2, api.OK))...)
}

// R3: what is handed in is not kept, and answers share nothing.
func TestSharesNothing(t *testing.T) {
	b := at(t, 1, 3)
	ruin := func(lists ...[]api.Item) {
		for _, l := range lists {
			l = l[:cap(l)]
			for i := range l {
				l[i] = api.Item{Good: "ruin", N: 99}
			}
		}
	}
	// each call's answer, and what was handed in, is ruined: the desk must not know.
	ruined := func(l []api.Post) {
		for _, p := range l {
			ruin(p.Mail.Items, p.Mail.Ask.Items)
		}
	}
	asks := func(a api.Ask) {
		behind := append(a.Items, api.Item{Good: "z", N: 7})
		a.Items = behind[:len(a.Items)]
		l := b.Ask(a, 0)
		if behind[len(behind)-1] != (api.Item{Good: "z", N: 7}) {
			t.Error("behind the end", behind)
		}
		posted := posts.Text(l)
		ruin(behind)
		if posts.Text(l) != posted {
			t.Error("shared:", posted, posts.Text(l))
		}
		ruined(l)
		b.again()
	}
	mails := func(m api.Mail, from int) {
		ruined(b.Mail(m, from))
		ruin(m.Items, m.Ask.Items)
		b.again()
	}
	looks := func() {
		for s := range b.Sagas() {
			ruin(append(s.Got, s.Want)...)
			clear(s.Pending)
			clear(s.Got)
			x, _ := b.Saga(s.Order)
			ruin(append(x.Got, x.Want)...)
			clear(x.Pending[:cap(x.Pending)])
			clear(x.Got[:cap(x.Got)])
			p, _ := b.Parcel(s.Order)
			ruin(p.Want, p.Shipped, p.Back)
		}
		for _, l := range [][]byte{b.Pack(), b.Save()} {
			clear(l[:cap(l)])
		}
		b.again()
	}
	asks(orders(1, 1, "a 6, b 1", 1))
	looks()
	mails(took(65, "a 2"), 1)
	looks()
	mails(took(65, "a 4, b 1"), 2)
	looks()
	asks(picks(1, 2, 65))
	mails(picked(65, "a 2"), 1)
	mails(picked(65, "a 4, b 1"), 2)
	asks(ships(1, 3, 65))
	looks()
	mails(shipped(65, "a 2"), 1)
	mails(shipped(65, "a 4, b 1"), 2)
	looks()
	asks(returns(1, 4, 65, 0, "a 1, b 1"))
	asks(goods(api.AskReceive, 1, 5, 0, "c 1, d 2"))
	asks(moves(1, 6, 0, 2, "c 1, d 2"))
	looks()
	b.state(65, api.SagaShipped, "a 6, b 1", "a 1, b 1", 3, 0)
	mails(done(1, 4, api.ErrFull, 0), 0)
	b.state(65, api.SagaShipped, "a 6, b 1", "", 2, 0)
	if s, _ := b.Saga(65); !slices.Equal(s.Want, list("a 6, b 1")) || !slices.Equal(s.Got[2], list("a 4, b 1")) || !slices.Equal(s.Got[1], list("a 2")) {
		t.Error(s)
	}
	// The request that is open is the one that was asked.
	b.ask(goods(api.AskReceive, 1, 5, 0, "c 1, d 2"), 2)
	b.mail(done(1, 5, api.OK, 0), 0, tells(2, 1, 5, api.OK))
}

// P21.1, R5: Sagas goes over all by rising orders, begins anew, may be stopped, and looks once.
func TestSagas(t *testing.T) {
	b := at(t, 1, 3)
	all := b.Sagas()
	for s := range all {
		t.Error(s)
	}
	var want []int
	for _, o := range [][2]int{{4, 9}, {1, 9}, {61, 2}, {1, 1 << 32}, {7, 1}} {
		b.ask(orders(o[0], o[1], "a 1", 0), 0, take(1, number(o[0], o[1]), "a 1"))
		want = append(want, number(o[0], o[1]))
	}
	slices.Sort(want)
	for range 10 {
		var l []int
		for s := range all {
			l = append(l, s.Order)
			if x, is := b.Saga(s.Order); !is || x.Order != s.Order {
				t.Error(x, s)
			}
		}
		if !slices.Equal(l, want) {
			t.Fatal(l, want)
		}
	}
	for stop := range want {
		var l []int
		for s := range all {
			l = append(l, s.Order)
			if len(l) > stop {
				break
			}
		}
		if !slices.Equal(l, want[:stop+1]) {
			t.Error(l)
		}
	}
	seen := 0
	for s := range all {
		seen++
		b.Ask(orders(1, 20+seen, "a 1", 0), 0)
		b.Mail(took(want[len(want)-1], "a 1"), 1)
		if s.State != api.SagaAsking {
			t.Error("not one look:", s)
		}
	}
	if seen != 5 {
		t.Error(seen)
	}
	for _, o := range []int{0, -1, 1, 64, 66, 1 << 40} {
		if s, is := b.Saga(o); is || s.Order != 0 || s.Want != nil || s.Got != nil || s.Pending != nil {
			t.Error(o, s)
		}
		if p, is := b.Parcel(o); is || p.Order != 0 || p.Want != nil {
			t.Error(o, p)
		}
	}
}
