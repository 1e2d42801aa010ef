package node

import (
	"slices"

	"entrepot/api"
	"entrepot/ask"
	"entrepot/link"
	"entrepot/mail"
)

// turn is one input that is done, and what is sent in it so far, in order.
type turn struct {
	*Node
	sent []api.Sent
}

func (n *Node) do(i input) []api.Sent {
	t := &turn{Node: n}
	t.inputs++
	switch i.kind {
	case aTick:
		t.tick()
	case aRequest:
		t.asked(i.request)
	case aPacket:
		t.came(i.from, i.packet)
	}
	return t.sent
}

func (t *turn) tick() {
	t.clock++
	t.sendLate()
	for other, end := range t.ends.Rising() {
		for _, p := range end.Tick(t.clock) {
			t.packet(other, p)
		}
	}
}

// asked posts a request to its client's home, which may be me.
func (t *turn) asked(a api.Ask) {
	home := ask.Home(a.Client, t.among.Many)
	t.posted([]api.Post{{To: home, Mail: api.Mail{Kind: api.MailAsk, Ask: a}}})
}

func (t *turn) came(from int, p api.Packet) {
	body, is, back := t.ends[from].On(p)
	if m, e := mail.Decode(body); is && e == api.OK {
		t.posted(t.take(m, from))
	}
	if back.Seq != 0 || back.Ack != 0 {
		t.packet(from, back)
	}
	t.sendLate()
}

// posted goes through a list to which more is put: what comes of mail to me.
func (t *turn) posted(l []api.Post) {
	for i := 0; i < len(l); i++ {
		to, m := l[i].To, l[i].Mail
		switch {
		case to == t.among.Me:
			l = append(l, t.take(m, to)...)
		case t.among.Has(to):
			t.send(to, m)
		}
	}
}

// take answers what is posted by that.
func (t *turn) take(m api.Mail, from int) []api.Post {
	switch m.Kind {
	case api.MailAsk:
		return t.desk.Ask(m.Ask, from)
	case api.MailAnswer:
		t.sent = append(t.sent, api.Sent{Client: true, To: m.Answer.Client, Answer: m.Answer})
		return nil
	case api.MailTake, api.MailFree, api.MailPick, api.MailShip, api.MailDo, api.MailGoods:
		return t.region.Mail(m, from)
	}
	return t.desk.Mail(m, from)
}

// send keeps the order: nothing goes ahead of what is late.
func (t *turn) send(to int, m api.Mail) {
	// What desks and regions post may be mail: it has a code.
	b, _ := mail.Encode(m)
	if len(t.late[to]) > 0 || !t.overLink(to, b) {
		t.late[to] = append(t.late[to], b)
	}
}

// overLink is whether there was room.
func (t *turn) overLink(to int, body []byte) bool {
	p, e := t.ends[to].Send(body, t.clock)
	if e != api.OK {
		return false
	}
	t.packet(to, p)
	return true
}

// packet lets go what may not be: numbers end, those of an end that was loaded.
func (t *turn) packet(to int, p api.Packet) {
	if b, e := link.Encode(p); e == api.OK {
		t.sent = append(t.sent, api.Sent{To: to, Packet: b})
	}
}

func (t *turn) sendLate() {
regions:
	for to := range t.ends.Rising() {
		for len(t.late[to]) > 0 {
			if !t.overLink(to, t.late[to][0]) {
				continue regions
			}
			t.late[to] = slices.Delete(t.late[to], 0, 1)
		}
		delete(t.late, to)
	}
}
