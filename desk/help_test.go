package desk_test

import (
	"bytes"
	"fmt"
	"slices"
	"testing"

	"entrepot/api"
	"entrepot/desk"
	"entrepot/lists"
	"entrepot/posts"
	"entrepot/saga"
)

func list(s string) []api.Item {
	return lists.Of(s)
}

// number is that of the order which a client's request makes.
func number(client, n int) int {
	return 64*n + client
}

// Requests. Those for an order name it by its number.

func orders(client, n int, l string, waits int) api.Ask {
	return api.Ask{Client: client, Number: n, Kind: api.AskOrder, N: waits, Items: list(l)}
}

func of(kind, client, n, order int) api.Ask {
	return api.Ask{Client: client, Number: n, Kind: kind, Order: order}
}

func cancels(client, n, order int) api.Ask { return of(api.AskCancel, client, n, order) }
func picks(client, n, order int) api.Ask   { return of(api.AskPick, client, n, order) }
func ships(client, n, order int) api.Ask   { return of(api.AskShip, client, n, order) }

func returns(client, n, order, region int, l string) api.Ask {
	return api.Ask{Client: client, Number: n, Kind: api.AskReturn, Order: order, Region: region, Items: list(l)}
}

func goods(kind, client, n, region int, l string) api.Ask {
	return api.Ask{Client: client, Number: n, Kind: kind, Region: region, Items: list(l)}
}

func counts(client, n, region int, good string, many int) api.Ask {
	return api.Ask{Client: client, Number: n, Kind: api.AskCount, Region: region, Good: good, N: many}
}

func moves(client, n, region, to int, l string) api.Ask {
	return api.Ask{Client: client, Number: n, Kind: api.AskMove, Region: region, To: to, Items: list(l)}
}

func low(client, n, mark int) api.Ask {
	return api.Ask{Client: client, Number: n, Kind: api.AskLow, N: mark}
}

// Mail.

func took(order int, l string) api.Mail    { return items(api.MailTook, order, l) }
func picked(order int, l string) api.Mail  { return items(api.MailPicked, order, l) }
func shipped(order int, l string) api.Mail { return items(api.MailShipped, order, l) }
func freed(order int) api.Mail             { return items(api.MailFreed, order, "") }

func items(kind, order int, l string) api.Mail {
	return api.Mail{Kind: kind, Order: order, Items: list(l)}
}

func done(client, n int, e api.Errno, many int) api.Mail {
	return api.Mail{Kind: api.MailDone, Answer: api.Answer{Client: client, Number: n, Code: e, N: many}}
}

func news() api.Mail {
	return api.Mail{Kind: api.MailNews}
}

// What is posted.

func take(to, order int, l string) api.Post {
	return api.Post{To: to, Mail: items(api.MailTake, order, l)}
}
func free(to, order int) api.Post { return api.Post{To: to, Mail: items(api.MailFree, order, "")} }
func pick(to, order int) api.Post { return api.Post{To: to, Mail: items(api.MailPick, order, "")} }
func ship(to, order int) api.Post { return api.Post{To: to, Mail: items(api.MailShip, order, "")} }

func do(to int, a api.Ask) api.Post {
	return api.Post{To: to, Mail: api.Mail{Kind: api.MailDo, Ask: a}}
}

// tells is an answer of the number 0.
func tells(to, client, n int, e api.Errno) api.Post {
	return answers(to, client, n, e, 0)
}

func answers(to, client, n int, e api.Errno, many int) api.Post {
	a := api.Answer{Client: client, Number: n, Code: e, N: many}
	return api.Post{To: to, Mail: api.Mail{Kind: api.MailAnswer, Answer: a}}
}

// told is what is posted in three regions: what comes ahead of the news, them, and what comes behind.
func told(ahead api.Post, behind ...api.Post) []api.Post {
	return slices.Concat([]api.Post{ahead}, posts.News(3), behind)
}

// bench has a desk, and looks at each call whether one that was saved ahead of it, and loaded, does the same.
type bench struct {
	*desk.Desk
	t       *testing.T
	me      int
	regions int
}

func at(t *testing.T, me, regions int) *bench {
	t.Helper()
	d, e := desk.New(me, regions)
	if e != api.OK || d == nil {
		t.Fatal(me, regions, e)
	}
	return &bench{d, t, me, regions}
}

func (b *bench) again() *desk.Desk {
	b.t.Helper()
	d, e := desk.Load(b.Save(), b.me, b.regions)
	if e != api.OK || d == nil {
		b.t.Fatalf("not loaded: %d, %q", e, b.Save())
	}
	alike(b.t, b.Desk, d)
	return d
}

func (b *bench) ask(a api.Ask, from int, want ...api.Post) {
	b.t.Helper()
	twin := b.again()
	got := b.Ask(a, from)
	b.look(fmt.Sprintf("%+v from %d", a, from), got, twin.Ask(a, from), want, twin)
}

func (b *bench) mail(m api.Mail, from int, want ...api.Post) {
	b.t.Helper()
	twin := b.again()
	got := b.Mail(m, from)
	b.look(fmt.Sprintf("%+v from %d", m, from), got, twin.Mail(m, from), want, twin)
}

func (b *bench) look(what string, got, other, want []api.Post, twin *desk.Desk) {
	b.t.Helper()
	if !posts.Same(got, want) {
		b.t.Fatalf("%s: posted %s\nnot %s", what, posts.Text(got), posts.Text(want))
	}
	if !posts.Same(got, other) {
		b.t.Fatalf("%s: the one that was loaded posted %s\nnot %s", what, posts.Text(other), posts.Text(got))
	}
	alike(b.t, b.Desk, twin)
	b.again()
}

// alike looks whether two desks are the same, by all calls that change nothing.
func alike(t *testing.T, a, b *desk.Desk) {
	t.Helper()
	if a.Open() != b.Open() || a.Waiting() != b.Waiting() || !bytes.Equal(a.Pack(), b.Pack()) || !bytes.Equal(a.Save(), b.Save()) {
		t.Fatalf("unlike: %d and %d, %d and %d\n%q\n%q", a.Open(), b.Open(), a.Waiting(), b.Waiting(), a.Save(), b.Save())
	}
	l, m := slices.Collect(a.Sagas()), slices.Collect(b.Sagas())
	if !slices.EqualFunc(l, m, saga.Same) {
		t.Fatalf("unlike: %v and %v", l, m)
	}
	for _, s := range l {
		x, is := a.Parcel(s.Order)
		y, also := b.Parcel(s.Order)
		if !is || !also || !sameParcel(x, y) {
			t.Fatalf("unlike: %v and %v", x, y)
		}
	}
}

func sameParcel(a, b api.Parcel) bool {
	return a.Order == b.Order && slices.Equal(a.Want, b.Want) && slices.Equal(a.Shipped, b.Shipped) && slices.Equal(a.Back, b.Back)
}

// state looks in which state an order is, what of it is shipped and back, how many requests are open, and how many orders wait.
func (b *bench) state(order, state int, sent, back string, open, waiting int) {
	b.t.Helper()
	s, is := b.Saga(order)
	p, also := b.Parcel(order)
	if !is || s.Order != order || s.State != state || !saga.May(s) {
		b.t.Fatalf("saga %d: %v %+v, not in %d", order, is, s, state)
	}
	if !also || p.Order != order || !slices.Equal(p.Want, s.Want) || !slices.Equal(p.Shipped, list(sent)) || !slices.Equal(p.Back, list(back)) {
		b.t.Fatalf("parcel %d: %v %+v, not %s shipped, %s back", order, also, p, sent, back)
	}
	b.count(open, waiting)
}

func (b *bench) count(open, waiting int) {
	b.t.Helper()
	if b.Open() != open || b.Waiting() != waiting {
		b.t.Fatalf("%d open, %d wait, not %d and %d", b.Open(), b.Waiting(), open, waiting)
	}
}

// still looks whether something is posted, with nothing that changes.
func (b *bench) still(name string, call func() []api.Post, want ...api.Post) {
	b.t.Helper()
	before := b.Save()
	if got := call(); !posts.Same(got, want) {
		b.t.Fatalf("%s: posted %s\nnot %s", name, posts.Text(got), posts.Text(want))
	}
	if !bytes.Equal(b.Save(), before) {
		b.t.Fatalf("%s changed something: %q, not %q", name, b.Save(), before)
	}
}
