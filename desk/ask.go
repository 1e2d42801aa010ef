package desk

import (
	"slices"

	"entrepot/api"
	"entrepot/ask"
	"entrepot/saga"
)

func (d *Desk) Ask(a api.Ask, from int) []api.Post {
	if d == nil || !ask.May(a) || !d.among.Has(from) || ask.Home(a.Client, d.among.Many) != d.among.Me {
		return nil
	}
	t := &turn{Desk: d}
	t.asked(a, from)
	return t.posts
}

// asked does what is new, once. The table is not told what is refused here: it knows another request by that number, or none.
func (t *turn) asked(a api.Ask, from int) {
	refuse := func(e api.Errno) {
		t.answer(api.Answer{Client: a.Client, Number: a.Number, Code: e}, from)
	}
	n := nameOf(a)
	switch verdict, done := t.table.Ask(a.Client, a.Number, ask.Body(a)); verdict {
	case api.VerdictNew:
		t.open[n] = request{ask: own(a), from: from}
		t.do(n, a)
	case api.VerdictOpen:
		t.open[n] = request{ask: t.open[n].ask, from: from}
	case api.VerdictDone:
		t.answer(done, from)
	case api.VerdictClash:
		refuse(api.ErrClash)
	case api.VerdictStale:
		refuse(api.ErrStale)
	case api.VerdictFull:
		refuse(api.ErrFull)
	}
}

func nameOf(a api.Ask) name {
	return name{client: a.Client, number: a.Number}
}

// own shares nothing with who handed it in, nor with who is handed it.
func own(a api.Ask) api.Ask {
	a.Items = slices.Clone(a.Items)
	return a
}

// do is of a request that is new, and open so far: it waits, or is told at once.
func (t *turn) do(n name, a api.Ask) {
	var e api.Errno
	switch a.Kind {
	case api.AskOrder:
		e = t.begin(n, a)
	case api.AskCancel:
		e = t.change(n, a, api.EventCancel)
	case api.AskPick:
		e = t.change(n, a, api.EventPick)
	case api.AskShip:
		e = t.change(n, a, api.EventShip)
	case api.AskReturn:
		e = t.back(a)
	case api.AskLow:
		t.tell(n, t.table.Low(a.Client, a.N), 0)
	default:
		e = t.send(a)
	}
	if e != api.OK {
		t.tell(n, e, 0)
	}
}

func (t *turn) begin(n name, a api.Ask) api.Errno {
	if len(t.sagas) >= api.MaxSagas {
		return api.ErrFull
	}
	order := ask.Order(a)
	// At a desk that was loaded there may be one of that order, though its table does not know the number.
	if e := t.parcels.Open(order, a.Items); e != api.OK {
		return e
	}
	// What may be asked for may be a saga: it is not refused.
	s, steps, _ := saga.Begin(order, t.among.Me, t.among.Many, a.Items, a.N == 1)
	t.wait(order, n)
	t.settle(s, steps)
	return api.OK
}

// change waits ahead of what comes of it: that may be what it waits for.
func (t *turn) change(n name, a api.Ask, kind int) api.Errno {
	if !t.owns(a) {
		return api.ErrNone
	}
	s, steps, e := saga.Next(t.sagas[a.Order], api.Event{Kind: kind})
	if e != api.OK {
		return e
	}
	t.wait(a.Order, n)
	t.settle(s, steps)
	return api.OK
}

// owns is whether a request's order is its client's.
func (t *turn) owns(a api.Ask) bool {
	_, there := t.sagas[a.Order]
	return there && ask.Owner(a.Order) == a.Client
}

func (t *turn) back(a api.Ask) api.Errno {
	switch {
	case !t.owns(a):
		return api.ErrNone
	case !t.among.Has(a.Region):
		return api.ErrArg
	}
	if e := t.parcels.Back(a.Order, a.Items); e != api.OK {
		return e
	}
	return t.send(a)
}

// send has the region do it. Of requests that go nowhere else To is 0, which is always a region.
func (t *turn) send(a api.Ask) api.Errno {
	if !t.among.Has(a.Region) || !t.among.Has(a.To) {
		return api.ErrArg
	}
	t.post(a.Region, api.Mail{Kind: api.MailDo, Ask: own(a)})
	return api.OK
}
