package desk

import (
	"entrepot/api"
	"entrepot/mail"
)

func (d *Desk) Mail(m api.Mail, from int) []api.Post {
	if d == nil || !mail.May(m) || !d.among.Has(from) {
		return nil
	}
	t := &turn{Desk: d}
	t.came(m, from)
	return t.posts
}

func (t *turn) came(m api.Mail, from int) {
	event := func(kind int) bool {
		return t.event(m.Order, api.Event{Kind: kind, Region: from, Items: m.Items})
	}
	switch m.Kind {
	case api.MailTook:
		event(api.EventTook)
	case api.MailFreed:
		event(api.EventFreed)
	case api.MailPicked:
		event(api.EventPicked)
	case api.MailShipped:
		if event(api.EventShipped) {
			t.parcels.Ship(m.Order, from, m.Items)
		}
	case api.MailDone:
		t.done(m.Answer)
	case api.MailNews:
		t.backlog.News()
		t.try()
	}
}

// done is of a request that a region did, or refused. One that is not open is told already.
func (t *turn) done(a api.Answer) {
	n := name{client: a.Client, number: a.Number}
	r, is := t.open[n]
	if !is {
		return
	}
	if r.ask.Kind == api.AskReturn && a.Code != api.OK {
		t.parcels.Undo(r.ask.Order, r.ask.Items)
	}
	t.tell(n, a.Code, a.N)
}
