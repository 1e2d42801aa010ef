package audit_test

import (
	"testing"

	"entrepot/api"
	"entrepot/asks"
)

// P26.1: what is there, and on its way, is what came, less what went.
func TestKept(t *testing.T) {
	b := begin(t, 3, 256)
	b.done(asks.Receive(0, 1, 0, "a 5"))
	b.done(asks.Receive(0, 2, 2, "a 5"))
	b.tells(asks.Move(0, 3, 0, 1, "a 2"))
	// What is on its way counts.
	if b.but("quiet"); b.Node(1).Region().Shelf().Level("a").Free != 0 {
		t.Fatal("not on its way")
	}
	b.rest()
	b.but()
	// More comes than was sent.
	b.region(1, about(api.MailGoods, 7, "a 1"))
	b.but("kept")
	b.crash(0)
	b.but("quiet")
	b.start(0)
	b.but("kept")
	b.crash(1)
	b.start(1)
	// What was not in the log is gone.
	b.but()
}

// P26.1: each good has to be kept, not all together.
func TestKeptOfEachGood(t *testing.T) {
	for _, good := range []string{"a", "b", "c"} {
		b := begin(t, 2, 256)
		b.done(asks.Receive(0, 1, 0, "a 5, b 5, c 5"))
		b.tells(asks.Move(0, 2, 0, 1, "a 1, b 1, c 1"))
		b.region(1, about(api.MailGoods, 900, good+" 1"))
		b.but("quiet")
		b.region(1, about(api.MailGoods, 901, good+" 1"))
		b.but("quiet", "kept")
	}
}

// many is a world in which goods were received in all regions; an order (131) was shipped, and some of it came back to region 1; there some was scrapped, and some sent.
func many(t *testing.T) *bench {
	t.Helper()
	b := begin(t, 3, 512)
	for i := range 3 {
		b.done(asks.Receive(0, i+1, i, "a 5, b 5"))
	}
	b.done(asks.Order(3, 2, "a 12, b 1", 0))
	b.done(asks.About(api.AskPick, 3, 3, 131))
	b.done(asks.About(api.AskShip, 3, 4, 131))
	b.done(asks.Return(3, 5, 131, 1, "a 3"))
	b.done(asks.Goods(api.AskScrap, 0, 5, 1, "a 1"))
	b.done(asks.Goods(api.AskRestock, 0, 6, 1, "a 1"))
	b.done(asks.Move(0, 7, 1, 2, "a 1, b 1"))
	b.done(asks.Count(0, 8, 1, "b", 9))
	b.but()
	return b
}

// P26.1: more came and went than was asked for.
func TestFlowsOfTooMuch(t *testing.T) {
	for what, m := range map[string]api.Mail{
		"received":                mailDo(asks.Receive(0, 90, 1, "a 1")),
		"received, named nowhere": mailDo(asks.Receive(0, 90, 1, "z 1")),
		"returned":                mailDo(asks.Return(3, 90, 131, 1, "a 1")),
		"returned, never shipped": mailDo(asks.Return(3, 90, 131, 1, "b 1")),
		"scrapped":                mailDo(asks.Goods(api.AskScrap, 0, 90, 1, "a 1")),
		"sent":                    mailDo(asks.Move(0, 90, 1, 2, "b 1")),
	} {
		b := many(t)
		b.region(1, m)
		if b.look()["flows"] {
			t.Error(what)
		}
		b.but("flows")
		b.crash(2)
		b.but("quiet")
		b.start(2)
		b.but("flows")
		b.crash(1)
		b.start(1)
		b.but()
	}
	b := many(t)
	b.region(1, about(api.MailTake, 900, "b 1"))
	b.region(1, about(api.MailPick, 900, ""))
	b.but("held")
	b.region(1, about(api.MailShip, 900, ""))
	b.but("held", "flows")
}

// P26.1: restocking and counting are no flows that are asked about.
func TestFlowsOfOtherKinds(t *testing.T) {
	b := many(t)
	b.region(1, mailDo(asks.Goods(api.AskRestock, 0, 90, 1, "a 1")))
	b.region(1, mailDo(asks.Count(0, 91, 1, "b", 99)))
	b.region(2, mailDo(asks.Count(0, 91, 2, "b", 0)))
	b.but()
}

// vainly tells a request whose mail to region 1 is lost; its desk is told all the same that it was done, and tells so when it is asked again.
func (b *bench) vainly(a api.Ask) {
	b.t.Helper()
	b.tells(a)
	b.lose()
	b.desk(0, 1, mailDone(a.Client, a.Number))
	b.tells(a)
	if answer, is := b.Answer(a.Client, a.Number); !is || answer.Code != api.OK {
		b.t.Fatal(a, is, answer)
	}
}

// P26.1: less came and went than was asked for, and answered OK.
func TestFlowsOfTooLittle(t *testing.T) {
	for what, a := range map[string]api.Ask{
		"received":                asks.Receive(0, 90, 1, "a 1"),
		"received, known nowhere": asks.Receive(0, 90, 1, "z 1"),
		"returned":                asks.Return(3, 90, 131, 1, "a 1"),
		"returned, another":       asks.Return(3, 90, 131, 1, "b 1"),
		"scrapped":                asks.Goods(api.AskScrap, 0, 90, 1, "a 1"),
		"scrapped, never there":   asks.Goods(api.AskScrap, 0, 90, 1, "b 1"),
		"sent":                    asks.Move(0, 90, 1, 2, "b 1"),
	} {
		b := many(t)
		b.vainly(a)
		if b.look()["flows"] {
			t.Error(what)
		}
		b.but("flows", "quiet")
		b.crash(2)
		b.but("quiet")
	}
	// As long as it is not answered it may be so, or not.
	b := many(t)
	b.tells(asks.Receive(0, 90, 1, "a 1"))
	b.but("quiet")
	b.rest()
	b.but()
	// Restocking and counting are no flows that are asked about.
	b = many(t)
	b.vainly(asks.Goods(api.AskRestock, 0, 90, 1, "a 1"))
	b.vainly(asks.Count(0, 91, 1, "b", 99))
	b.but("quiet")
}

// P26.1: of shipments it is asked alone whether there are too many.
func TestFlowsOfFewShipments(t *testing.T) {
	b := begin(t, 2, 512)
	b.done(asks.Receive(0, 1, 0, "a 5"))
	b.done(asks.Receive(0, 2, 1, "a 5"))
	b.done(asks.Order(0, 3, "a 7", 0))
	b.done(asks.About(api.AskPick, 0, 4, 192))
	a := asks.About(api.AskShip, 0, 5, 192)
	b.tells(a)
	b.lose()
	b.desk(0, 1, about(api.MailShipped, 192, "a 2"))
	b.tells(a)
	if answer, is := b.Answer(0, 5); !is || answer.Code != api.OK {
		t.Fatal(is, answer)
	}
	b.shipped(5, 0)
	b.but("quiet")
}

// shipped looks how many of a each region shipped.
func (b *bench) shipped(want ...int) {
	b.t.Helper()
	for i, n := range want {
		if got := b.Node(i).Region().Shelf().Flow("a").Shipped; got != n {
			b.t.Fatal(i, got, n)
		}
	}
}

// P26.1: what is shipped may be told later, and is not too much for that.
func TestFlowsOfShipmentsThatAreNotToldYet(t *testing.T) {
	b := begin(t, 2, 512)
	b.done(asks.Receive(0, 1, 0, "a 5"))
	b.done(asks.Receive(0, 2, 1, "a 5"))
	b.done(asks.Order(0, 3, "a 7", 0))
	b.done(asks.About(api.AskPick, 0, 4, 192))
	b.tells(asks.About(api.AskShip, 0, 5, 192))
	b.shipped(5, 0)
	b.but("quiet")
	b.does(api.Act{Kind: api.ActDeliver})
	b.shipped(5, 2)
	if _, is := b.Answer(0, 5); is {
		t.Fatal("answered")
	}
	b.but("quiet")
	b.region(1, about(api.MailTake, 900, "a 1"))
	b.region(1, about(api.MailPick, 900, ""))
	b.region(1, about(api.MailShip, 900, ""))
	b.shipped(5, 3)
	b.but("quiet", "flows")
}

// P26.1: what was asked for otherwise in two ways may be any of them.
func TestFlowsOfClashes(t *testing.T) {
	b := begin(t, 2, 256)
	b.done(asks.Receive(0, 1, 1, "a 5"))
	b.tells(asks.Receive(0, 1, 1, "a 7"))
	b.rest()
	b.but()
	b.region(1, mailDo(asks.Receive(0, 90, 1, "a 2")))
	b.but()
	b.region(1, mailDo(asks.Receive(0, 91, 1, "a 1")))
	b.but("flows")
}
