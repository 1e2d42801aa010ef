package node_test

import (
	"testing"

	"entrepot/api"
	"entrepot/ask"
	"entrepot/desk"
	"entrepot/link"
	"entrepot/mail"
	"entrepot/region"
)

// plain is a node without a log: what it is told it does at once, and its late mail stays mail.
type plain struct {
	me     int
	many   int
	clock  int
	told   int
	desk   *desk.Desk
	region *region.Region
	ends   [8]*link.End
	late   [8][]api.Mail
	sent   []api.Sent
}

func newPlain(t *testing.T, me, many int) *plain {
	t.Helper()
	d, e := desk.New(me, many)
	r, f := region.New(me, many)
	if e != api.OK || f != api.OK {
		t.Fatal(e, f)
	}
	p := &plain{me: me, many: many, desk: d, region: r}
	for other := range many {
		if other != me {
			p.ends[other] = link.New()
		}
	}
	return p
}

// begin is of a new input; what was sent ahead is answered already.
func (p *plain) begin() {
	p.told++
	p.sent = nil
}

func (p *plain) tick() []api.Sent {
	p.begin()
	p.clock++
	p.drain()
	for other, end := range p.ends {
		for _, x := range end.Tick(p.clock) {
			p.out(other, x)
		}
	}
	return p.sent
}

func (p *plain) ask(a api.Ask) []api.Sent {
	p.begin()
	if home := a.Client % p.many; home != p.me {
		p.post(home, mailAsk(a))
	} else {
		p.all(p.desk.Ask(a, p.me))
	}
	return p.sent
}

func (p *plain) on(from int, b []byte) []api.Sent {
	p.begin()
	x, e := link.Decode(b)
	if e != api.OK {
		panic("no packet")
	}
	body, is, back := p.ends[from].On(x)
	if is {
		if m, e := mail.Decode(body); e == api.OK {
			p.all(p.take(m, from))
		}
	}
	if back.Seq > 0 || back.Ack > 0 {
		p.out(from, back)
	}
	p.drain()
	return p.sent
}

// all does what is posted first, and puts what comes of it behind the rest.
func (p *plain) all(l []api.Post) {
	if len(l) == 0 {
		return
	}
	first, rest := l[0], l[1:]
	var more []api.Post
	switch {
	case first.To == p.me:
		more = p.take(first.Mail, p.me)
	case first.To >= 0 && first.To < p.many:
		p.post(first.To, first.Mail)
	}
	p.all(append(append([]api.Post{}, rest...), more...))
}

func (p *plain) take(m api.Mail, from int) []api.Post {
	atDesk := map[int]bool{api.MailTook: true, api.MailFreed: true, api.MailPicked: true, api.MailShipped: true, api.MailDone: true, api.MailNews: true}
	if m.Kind == api.MailAsk {
		return p.desk.Ask(m.Ask, from)
	}
	if m.Kind == api.MailAnswer {
		p.sent = append(p.sent, tells(m.Answer.Client, m.Answer.Number, m.Answer.Code, m.Answer.N))
		return nil
	}
	if atDesk[m.Kind] {
		return p.desk.Mail(m, from)
	}
	return p.region.Mail(m, from)
}

func (p *plain) post(to int, m api.Mail) {
	p.late[to] = append(p.late[to], m)
	if len(p.late[to]) == 1 {
		p.drainTo(to)
	}
}

func (p *plain) drain() {
	for to := range p.many {
		p.drainTo(to)
	}
}

func (p *plain) drainTo(to int) {
	var left []api.Mail
	for i, m := range p.late[to] {
		x, e := p.ends[to].Send(body(m), p.clock)
		if e != api.OK {
			left = append(left, p.late[to][i:]...)
			break
		}
		p.out(to, x)
	}
	p.late[to] = left
}

func (p *plain) out(to int, x api.Packet) {
	p.sent = append(p.sent, api.Sent{To: to, Packet: packet(x.Seq, x.Ack, x.Body)})
}

func (p *plain) lateMails() int {
	many := 0
	for _, l := range p.late {
		many += len(l)
	}
	return many
}

func (p *plain) open() int {
	many := p.lateMails()
	for _, end := range p.ends {
		many += end.Open()
	}
	return many
}

func (p *plain) state() []byte {
	b := text(text(nums(nil, p.clock), p.desk.Pack()), p.region.Pack())
	many := 0
	var sagas []byte
	for s := range p.desk.Sagas() {
		many++
		sagas = nums(sagas, s.Order, s.State)
	}
	b = append(nums(b, many), sagas...)
	for other := range p.many {
		if end := p.ends[other]; end != nil {
			b = nums(b, end.Sent(), end.Mark(), end.Open(), len(p.late[other]))
		}
	}
	return b
}

func (p *plain) snapshot() []byte {
	b := text(nil, nums(nil, p.clock, p.told))
	b = text(text(b, p.desk.Save()), p.region.Save())
	for other := range p.many {
		var late []byte
		for _, m := range p.late[other] {
			late = text(late, body(m))
		}
		b = text(text(b, p.ends[other].Pack()), late)
	}
	return b
}

// homeOf is a client whose home is that region.
func homeOf(region, regions int) int {
	for client := range 64 {
		if ask.Home(client, regions) == region {
			return client
		}
	}
	panic("no such region")
}
