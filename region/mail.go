package region

import (
	"slices"

	"entrepot/api"
	"entrepot/mail"
	"entrepot/stock"
)

func (r *Region) Mail(m api.Mail, from int) []api.Post {
	if r == nil || !mail.May(m) || !r.among.Has(from) {
		return nil
	}
	// back answers what is asked of an order. Where the shelf refused it, l is nothing.
	back := func(l []api.Item) []api.Post {
		return []api.Post{{To: from, Mail: api.Mail{Kind: mail.Answers(m.Kind), Order: m.Order, Items: l}}}
	}
	switch m.Kind {
	case api.MailTake:
		l, _ := r.shelf.Take(m.Order, m.Items)
		return back(l)
	case api.MailFree:
		r.shelf.Free(m.Order)
		return back(nil)
	case api.MailPick:
		l, _ := r.shelf.Pick(m.Order)
		return back(l)
	case api.MailShip:
		l, _ := r.shelf.Ship(m.Order)
		return back(l)
	case api.MailDo:
		return r.change(func() []api.Post { return r.asked(m.Ask, from) })
	case api.MailGoods:
		return r.change(func() []api.Post { return r.came(m.Items) })
	}
	return nil
}

// change does what may make room, or goods free: behind it what came is put away as far as may be, and all are told if there is more.
func (r *Region) change(do func() []api.Post) []api.Post {
	ahead := r.shelf.Stock()
	l := do()
	r.putAway()
	if more(ahead, r.shelf.Stock()) {
		l = append(l, r.among.News()...)
	}
	return l
}

// putAway tries each list once, the first ones first.
func (r *Region) putAway() {
	var left [][]api.Item
	for _, l := range r.stuck {
		if r.shelf.Do(api.DoCome, l) != api.OK {
			left = append(left, l)
		}
	}
	r.stuck = left
}

// more is whether of some good more is free than ahead.
func more(ahead, now *stock.Stock) bool {
	for good := range now.Goods() {
		if now.Level(good).Free > ahead.Level(good).Free {
			return true
		}
	}
	return false
}

func (r *Region) came(l []api.Item) []api.Post {
	r.stuck = append(r.stuck, slices.Clone(l))
	return nil
}

// asked does a request, which is answered in any case; what is moved goes ahead of the answer.
func (r *Region) asked(a api.Ask, from int) []api.Post {
	n, posts, e := r.do(a)
	done := api.Answer{Client: a.Client, Number: a.Number, Code: e, N: n}
	return append(posts, api.Post{To: from, Mail: api.Mail{Kind: api.MailDone, Answer: done}})
}

// do answers too how many more there are, and what is to be sent.
func (r *Region) do(a api.Ask) (int, []api.Post, api.Errno) {
	switch a.Kind {
	case api.AskCount:
		n, e := r.shelf.Count(a.Good, a.N)
		return n, nil, e
	case api.AskMove:
		l, e := r.send(a)
		return 0, l, e
	}
	return 0, nil, r.shelf.Do(doing(a.Kind), a.Items)
}

// doing is what a kind of request does to a stock; of others none, which the shelf refuses.
func doing(kind int) int {
	switch kind {
	case api.AskReceive:
		return api.DoReceive
	case api.AskReturn:
		return api.DoReturn
	case api.AskRestock:
		return api.DoRestock
	case api.AskScrap:
		return api.DoScrap
	}
	return 0
}

func (r *Region) send(a api.Ask) ([]api.Post, api.Errno) {
	number := api.MaxClients*a.Number + a.Client
	if e := r.moves.Go(number, r.among.Me, a.To, a.Items); e != api.OK {
		return nil, e
	}
	if e := r.shelf.Do(api.DoSend, a.Items); e != api.OK {
		// Moves are let go only once they came.
		r.moves.Come(number)
		r.moves.Forget(number)
		return nil, e
	}
	m := api.Mail{Kind: api.MailGoods, Order: number, Items: slices.Clone(a.Items)}
	return []api.Post{{To: a.To, Mail: m}}, api.OK
}
