package node_test

import (
	"testing"

	"entrepot/api"
	"entrepot/asks"
	"entrepot/link"
)

// lows are a client's requests for elsewhere, with numbers from one to another.
func (b *bench) lows(client, from, to int) {
	b.t.Helper()
	for n := from; n <= to; n++ {
		b.asked(asks.Low(client, n, 1))
	}
}

func low(client, n int) api.Mail {
	return mailAsk(asks.Low(client, n, 1))
}

// P23.1: what has no room on the link is late, and goes, in order, as soon as there is room.
func TestLate(t *testing.T) {
	b := at(t, 0, 2, 256)
	b.lows(1, 1, 63)
	b.ask(asks.Low(1, 64, 1), sends(1, 64, 0, low(1, 64)))
	b.has(64, 0, 64)
	b.ask(asks.Low(1, 65, 1))
	b.ask(asks.Low(1, 66, 1))
	b.ask(asks.Low(1, 67, 1))
	b.has(67, 3, 67)
	// Nothing comes of it that some came twice.
	b.on(1, packet(0, 0, nil))
	b.has(67, 3, 68)
	b.on(1, packet(0, 1, nil), sends(1, 65, 0, low(1, 65)))
	b.has(66, 2, 69)
	b.on(1, packet(0, 30, nil), sends(1, 66, 0, low(1, 66)), sends(1, 67, 0, low(1, 67)))
	b.has(37, 0, 70)
	b.ask(asks.Low(1, 68, 1), sends(1, 68, 0, low(1, 68)))
	b.on(1, packet(0, 68, nil))
	b.has(0, 0, 72)
}

// P23.1: requests are refused with more than 32 mails late, and not with 32; packets and ticks are not.
func TestAskWithMuchLate(t *testing.T) {
	b := at(t, 0, 3, 256)
	refused := func(a api.Ask) {
		t.Helper()
		b.still("full", api.ErrFull, func() ([]api.Sent, api.Errno) { return b.Ask(asks.Code(a)) })
	}
	b.lows(1, 1, 64+20)
	b.lows(2, 1, 64+12)
	b.has(160, 32, 160)
	b.ask(asks.Receive(0, 1, 0, "a 5"), tells(0, 1, api.OK, 0))
	b.has(162, 34, 161)
	refused(asks.Low(1, 90, 1))
	refused(asks.Receive(0, 1, 0, "a 5"))
	// What is no request is so first.
	b.still("no request", api.ErrCode, func() ([]api.Sent, api.Errno) { return b.Ask([]byte{7}) })
	b.tick()
	b.mail(1, 1, 0, mailDo(asks.Receive(1, 1, 0, "a 5")), marks(1, 1))
	b.has(162+3, 34+3, 163)
	b.on(2, packet(0, 1, nil), sends(2, 65, 0, low(2, 65)))
	b.has(164, 36, 164)
	b.on(2, packet(0, 4, nil), sends(2, 66, 0, low(2, 66)), sends(2, 67, 0, low(2, 67)), sends(2, 68, 0, low(2, 68)))
	b.has(161, 33, 165)
	refused(asks.Receive(0, 1, 0, "a 5"))
	b.on(2, packet(0, 5, nil), sends(2, 69, 0, low(2, 69)))
	b.has(160, 32, 166)
	b.ask(asks.Receive(0, 1, 0, "a 5"), tells(0, 1, api.OK, 0))
}

// P23.1: a region without room is left, and the others' mail goes.
func TestLateOfSomeRegions(t *testing.T) {
	b := at(t, 1, 4, 256)
	b.lows(0, 1, 66)
	b.lows(2, 1, 66)
	b.lows(3, 1, 66)
	b.has(198, 6, 198)
	b.on(2, packet(0, 2, nil), sends(2, 65, 0, low(2, 65)), sends(2, 66, 0, low(2, 66)))
	b.on(3, packet(0, 1, nil), sends(3, 65, 0, low(3, 65)))
	b.on(0, packet(0, 1, nil), sends(0, 65, 0, low(0, 65)))
	b.has(198-4, 2, 201)
	b.on(3, packet(0, 64, nil), sends(3, 66, 0, low(3, 66)))
	b.on(0, packet(0, 64, nil), sends(0, 66, 0, low(0, 66)))
	b.has(2+64+2, 0, 203)
}

// P23.1: nothing goes ahead of what is late, though there is room by then; it goes behind the packet that tells the mark.
func TestNothingGoesAhead(t *testing.T) {
	b := at(t, 0, 3, 256)
	b.lows(1, 1, 65)
	b.lows(2, 1, 65)
	b.has(130, 2, 130)
	a := asks.Receive(2, 1, 0, "a 5")
	b.mail(1, 1, 2, mailDo(a), marks(1, 1), sends(1, 65, 1, low(1, 65)), sends(1, 66, 1, answering(api.MailDone, 2, 1, api.OK, 0)))
	// The news to both others are late: there was room for two.
	b.has(64+1+64+2, 1+2, 131)
	b.on(2, packet(0, 64, nil), sends(2, 65, 0, low(2, 65)), sends(2, 66, 0, news()))
	b.on(1, packet(0, 66, nil), sends(1, 67, 1, news()))
	b.has(1+2, 0, 133)
}

// loaded is a node, and another one, of a snapshot of a plain one.
func loaded(t *testing.T, p *plain) *bench {
	t.Helper()
	b := at(t, p.me, p.many, 64)
	parts := partsOf(p.snapshot(), 60000)
	b.Node, b.plain = open(t, logged(t, 64, parts...), p.me, p.many), p
	b.other = logged(t, 64, parts...)
	return b
}

// P23.1: a tick sends what is late first, over all regions; then what is due. Late mail with room comes from snapshots alone.
func TestLateWithRoom(t *testing.T) {
	p := newPlain(t, 1, 3)
	p.clock, p.told = 7, 40
	p.ask(asks.Low(0, 1, 1))
	p.ask(asks.Low(2, 1, 1))
	p.clock = 8
	p.late[0] = []api.Mail{low(0, 2), low(0, 3)}
	p.late[2] = []api.Mail{news()}
	b := loaded(t, p)
	b.has(5, 3, 42)
	b.tick(sends(0, 2, 0, low(0, 2)), sends(0, 3, 0, low(0, 3)), sends(2, 2, 0, news()), sends(0, 1, 0, low(0, 1)), sends(2, 1, 0, low(2, 1)))
	b.tick()
	b.tick(sends(0, 2, 0, low(0, 2)), sends(0, 3, 0, low(0, 3)), sends(2, 2, 0, news()))
	b.has(5, 0, 45)
	// Behind a packet what is late goes to all regions; a request goes behind it.
	p.late[0], p.late[2] = []api.Mail{news()}, []api.Mail{low(2, 9)}
	b = loaded(t, p)
	b.ask(asks.Low(2, 4, 1))
	b.has(8, 3, 46)
	b.on(0, packet(1, 1, nil), marks(0, 1), sends(0, 4, 1, news()), sends(2, 3, 0, low(2, 9)), sends(2, 4, 0, low(2, 4)))
	b.has(7, 0, 47)
}

// Of an end that was loaded the numbers may end: what may be no packet is not sent, and stays open.
func TestNumbersEnd(t *testing.T) {
	p := newPlain(t, 0, 2)
	end, e := link.Unpack(nums(nil, 1<<40-1, 1<<40-1, 0))
	if e != api.OK {
		t.Fatal(e)
	}
	p.ends[1] = end
	b := loaded(t, p)
	b.ask(asks.Low(1, 1, 1), sends(1, 1<<40, 1<<40-1, low(1, 1)))
	n := b.Node
	if l, e := n.Ask(asks.Code(asks.Low(1, 2, 1))); l != nil || e != api.OK || n.Open() != 2 {
		t.Error(l, e, n.Open())
	}
	if l, e := n.Tick(); l != nil || e != api.OK {
		t.Error(l, e)
	}
	if l, e := n.Tick(); len(l) != 1 || e != api.OK {
		t.Error(l, e)
	}
}
