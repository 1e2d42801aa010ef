package desk

import (
	"slices"

	"entrepot/api"
	"entrepot/ask"
)

// turn is one call on a desk, and what is posted in it so far, in order.
type turn struct {
	*Desk
	posts []api.Post
}

func (t *turn) post(to int, m api.Mail) {
	t.posts = append(t.posts, api.Post{To: to, Mail: m})
}

func (t *turn) answer(a api.Answer, to int) {
	t.post(to, api.Mail{Kind: api.MailAnswer, Answer: a})
}

// tell answers a request that is open, and is not any more: nor does it wait.
func (t *turn) tell(n name, e api.Errno, number int) {
	r := t.open[n]
	delete(t.open, n)
	t.leave(orderOf(r.ask), n)
	a := api.Answer{Client: n.client, Number: n.number, Code: e, N: number}
	t.table.Tell(a)
	t.answer(a, r.from)
}

// orderOf is the order for which a request waits while it is open; 0 of one that waits for a region.
func orderOf(a api.Ask) int {
	switch a.Kind {
	case api.AskOrder:
		return ask.Order(a)
	case api.AskCancel, api.AskPick, api.AskShip:
		return a.Order
	}
	return 0
}

func (t *turn) wait(order int, n name) {
	t.waits[order] = append(t.waits[order], n)
}

func (t *turn) leave(order int, n name) {
	left := slices.DeleteFunc(t.waits[order], func(other name) bool { return other == n })
	if len(left) > 0 {
		t.waits[order] = left
	} else {
		delete(t.waits, order)
	}
}
