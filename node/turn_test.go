package node_test

import (
	"testing"

	"entrepot/api"
	"entrepot/asks"
	"entrepot/link"
	"entrepot/mail"
)

// A request of a client whose home is elsewhere goes there; what comes back is for the client.
func TestAskElsewhere(t *testing.T) {
	b := at(t, 0, 3, 64)
	a := asks.Receive(4, 1, 2, "a 5")
	b.ask(a, sends(1, 1, 0, mailAsk(a)))
	b.has(1, 0, 1)
	b.mail(1, 1, 1, answering(api.MailAnswer, 4, 1, api.ErrGood, 7), tells(4, 1, api.ErrGood, 7), marks(1, 1))
	b.has(0, 0, 2)
	if b.Desk().Open() != 0 {
		t.Error("it is open here")
	}
	// Whichever client it is for.
	b.mail(1, 2, 1, answering(api.MailAnswer, 63, 9, api.OK, -1), tells(63, 9, api.OK, -1), marks(1, 2))
}

// A tick is one more of the clock; what is due is sent again, by rising regions.
func TestTick(t *testing.T) {
	b := at(t, 1, 3, 64)
	two := mailAsk(asks.Low(2, 1, 1))
	none := mailAsk(asks.Low(0, 1, 1))
	b.ask(two.Ask, sends(2, 1, 0, two))
	b.ask(none.Ask, sends(0, 1, 0, none))
	b.tick()
	b.ask(asks.Low(0, 2, 1), sends(0, 2, 0, mailAsk(asks.Low(0, 2, 1))))
	b.tick(sends(0, 1, 0, none), sends(2, 1, 0, two))
	b.tick(sends(0, 2, 0, mailAsk(asks.Low(0, 2, 1))))
	b.mail(2, 1, 0, news(), marks(2, 1))
	b.tick()
	b.tick()
	// What came is told with it.
	b.tick(sends(0, 1, 0, none), sends(2, 1, 1, two))
	b.has(3, 0, 10)
}

// P23.1: a packet's mail is taken, then it is told that it came; what came already, or does not come next, is told alone.
func TestPackets(t *testing.T) {
	b := at(t, 0, 2, 64)
	first := mailDo(asks.Receive(1, 1, 0, "a 5"))
	b.mail(1, 2, 0, first)
	b.mail(1, 1, 0, first, sends(1, 1, 1, answering(api.MailDone, 1, 1, api.OK, 0)), sends(1, 2, 1, news()), marks(1, 1))
	b.has(2, 0, 2)
	b.mail(1, 1, 1, first, marks(1, 1))
	b.has(1, 0, 3)
	b.mail(1, 3, 0, first, marks(1, 1))
	// A mark alone is not answered.
	b.on(1, packet(0, 2, nil))
	b.has(0, 0, 5)
	b.on(1, packet(0, 0, nil))
	// A body that is no mail came too.
	b.on(1, packet(2, 0, nil), marks(1, 2))
	b.on(1, packet(3, 0, []byte("junk")), marks(1, 3))
	b.mail(1, 4, 0, mailDo(asks.Count(1, 2, 0, "a", 4)), sends(1, 3, 4, answering(api.MailDone, 1, 2, api.OK, -1)), marks(1, 4))
	if l := b.Region().Shelf().Level("a"); l.Free != 4 {
		t.Error(l)
	}
}

// Each kind of mail is taken by the desk, or by the region, as from there.
func TestMailIsTaken(t *testing.T) {
	b := at(t, 2, 3, 64)
	home := homeOf(2, 3)
	b.mail(1, 1, 0, mailAsk(asks.Receive(home, 1, 2, "a 5")),
		sends(0, 1, 0, news()), sends(1, 1, 1, news()), sends(1, 2, 1, answering(api.MailAnswer, home, 1, api.OK, 0)), marks(1, 1))
	b.mail(0, 1, 0, about(api.MailTake, 64, "a 2"), sends(0, 2, 1, about(api.MailTook, 64, "a 2")), marks(0, 1))
	b.mail(0, 2, 0, about(api.MailPick, 64, ""), sends(0, 3, 2, about(api.MailPicked, 64, "a 2")), marks(0, 2))
	b.mail(0, 3, 0, about(api.MailShip, 64, ""), sends(0, 4, 3, about(api.MailShipped, 64, "a 2")), marks(0, 3))
	b.mail(0, 4, 0, about(api.MailTake, 128, "a 9"), sends(0, 5, 4, about(api.MailTook, 128, "a 3")), marks(0, 4))
	b.mail(0, 5, 0, about(api.MailFree, 128, ""), sends(0, 6, 5, about(api.MailFreed, 128, "")), marks(0, 5))
	b.mail(0, 6, 0, about(api.MailGoods, 128, "b 1"), sends(0, 7, 6, news()), sends(1, 3, 1, news()), marks(0, 6))
	order := 64*2 + home
	b.ask(asks.Order(home, 2, "a 4, b 1", 0), sends(0, 8, 6, about(api.MailTake, order, "a 1")))
	b.mail(0, 7, 0, about(api.MailTook, order, "a 1"), tells(home, 2, api.OK, 0), marks(0, 7))
	b.mail(1, 2, 0, mailAsk(asks.About(api.AskPick, home, 3, order)), sends(0, 9, 7, about(api.MailPick, order, "")), marks(1, 2))
	b.mail(0, 8, 0, about(api.MailPicked, order, "a 1"), sends(1, 4, 2, answering(api.MailAnswer, home, 3, api.OK, 0)), marks(0, 8))
	b.ask(asks.About(api.AskShip, home, 4, order), sends(0, 10, 8, about(api.MailShip, order, "")))
	b.mail(0, 9, 0, about(api.MailShipped, order, "a 1"), tells(home, 4, api.OK, 0), marks(0, 9))
	b.ask(asks.Goods(api.AskScrap, home, 5, 1, "a 1"), sends(1, 5, 2, mailDo(asks.Goods(api.AskScrap, home, 5, 1, "a 1"))))
	b.mail(1, 3, 0, answering(api.MailDone, home, 5, api.ErrGood, 0), tells(home, 5, api.ErrGood, 0), marks(1, 3))
	b.ask(asks.Order(home, 6, "c 1", 1), sends(0, 11, 9, about(api.MailTake, 64*6+home, "c 1")))
	b.mail(0, 10, 0, about(api.MailTook, 64*6+home, ""), sends(1, 6, 3, about(api.MailTake, 64*6+home, "c 1")), marks(0, 10))
	b.mail(0, 11, 0, about(api.MailFreed, 64*6+home, ""), marks(0, 11))
	b.mail(1, 4, 0, about(api.MailTook, 64*6+home, ""), tells(home, 6, api.ErrWait, 0), sends(0, 12, 11, news()), sends(1, 7, 4, news()), sends(0, 13, 11, about(api.MailTake, 64*6+home, "c 1")), marks(1, 4))
	b.mail(1, 5, 0, news(), marks(1, 5))
}

// What is posted is gone through in order, what comes of it behind it: the answer to the one who asked comes behind the news.
func TestPostsInOrder(t *testing.T) {
	b := at(t, 0, 3, 64)
	b.ask(asks.Receive(0, 1, 0, "a 5"), sends(1, 1, 0, news()), sends(2, 1, 0, news()), tells(0, 1, api.OK, 0))
	// The request of another region goes on from here: what is for there comes behind nothing else.
	a := asks.Receive(3, 1, 1, "a 5")
	b.mail(2, 1, 0, mailAsk(a), sends(1, 2, 0, mailDo(a)), marks(2, 1))
	// What moves goes ahead of the answer.
	b.ask(asks.Move(0, 2, 0, 2, "a 5"), sends(2, 2, 1, about(api.MailGoods, 128, "a 5")), tells(0, 2, api.OK, 0))
}

// Two orders wait, and there is enough for one: the answer comes behind the news, and ahead of what the second one wants of the other region.
func TestPostsOfOrdersThatWait(t *testing.T) {
	b := at(t, 0, 2, 256)
	seq := 0
	// empty is region 1, which has nothing.
	empty := func(l []api.Sent) {
		for len(l) > 0 {
			p, _ := link.Decode(l[0].Packet)
			m, e := mail.Decode(p.Body)
			l = l[1:]
			if e == api.OK && m.Kind == api.MailTake {
				seq++
				l = append(l, b.came(1, packet(seq, p.Seq, body(about(api.MailTook, m.Order, ""))))...)
			}
		}
	}
	empty(b.asked(asks.Order(0, 1, "b 2", 1)))
	empty(b.asked(asks.Order(2, 1, "b 2", 1)))
	if b.Desk().Waiting() != 2 || b.Desk().Open() != 0 {
		t.Fatal(b.Desk().Waiting(), b.Desk().Open())
	}
	sent := b.plain.ends[1].Sent()
	b.ask(asks.Receive(0, 2, 0, "b 2"),
		sends(1, sent+1, seq, news()), tells(0, 2, api.OK, 0), sends(1, sent+2, seq, about(api.MailTake, 66, "b 2")))
}

// Mail to no region is let go: a region that is asked to move goods does not look where to.
func TestMailToNoRegion(t *testing.T) {
	b := at(t, 0, 2, 64)
	b.ask(asks.Receive(0, 1, 0, "a 5"), sends(1, 1, 0, news()), tells(0, 1, api.OK, 0))
	b.mail(1, 1, 0, mailDo(asks.Move(1, 2, 0, 2, "a 2")), sends(1, 2, 1, answering(api.MailDone, 1, 2, api.OK, 0)), marks(1, 1))
	b.mail(1, 2, 0, mailDo(asks.Move(1, 3, 0, 7, "a 2")), sends(1, 3, 2, answering(api.MailDone, 1, 3, api.OK, 0)), marks(1, 2))
	b.has(3, 0, 3)
	if l := b.Region().Shelf().Level("a"); l.Free != 1 {
		t.Error(l)
	}
}
