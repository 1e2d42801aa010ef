package region_test

import (
	"bytes"
	"slices"
	"testing"

	"entrepot/api"
	"entrepot/hold"
	"entrepot/lists"
	"entrepot/posts"
	"entrepot/region"
)

func list(s string) []api.Item {
	return lists.Of(s)
}

func about(kind, order int, l string) api.Mail {
	return api.Mail{Kind: kind, Order: order, Items: list(l)}
}

// Mail.

func take(order int, l string) api.Mail { return about(api.MailTake, order, l) }
func free(order int) api.Mail           { return about(api.MailFree, order, "") }
func pick(order int) api.Mail           { return about(api.MailPick, order, "") }
func ship(order int) api.Mail           { return about(api.MailShip, order, "") }
func come(move int, l string) api.Mail  { return about(api.MailGoods, move, l) }

// do is a request, which is of client 3 and of whatever region, by its kind.
func do(n, kind int, l string) api.Mail {
	return api.Mail{Kind: api.MailDo, Ask: api.Ask{Client: 3, Number: n, Kind: kind, Region: 1, Items: list(l)}}
}

func count(n int, good string, many int) api.Mail {
	return api.Mail{Kind: api.MailDo, Ask: api.Ask{Client: 3, Number: n, Kind: api.AskCount, Region: 1, Good: good, N: many}}
}

// send is a move from region 1.
func send(n, to int, l string) api.Mail {
	m := do(n, api.AskMove, l)
	m.Ask.To = to
	return m
}

// back is a return, which has an order.
func back(n, order int, l string) api.Mail {
	m := do(n, api.AskReturn, l)
	m.Ask.Order = order
	return m
}

// What is posted.

func post(to int, m api.Mail) api.Post {
	return api.Post{To: to, Mail: m}
}

func took(to, order int, l string) api.Post    { return post(to, about(api.MailTook, order, l)) }
func freed(to, order int) api.Post             { return post(to, about(api.MailFreed, order, "")) }
func picked(to, order int, l string) api.Post  { return post(to, about(api.MailPicked, order, l)) }
func shipped(to, order int, l string) api.Post { return post(to, about(api.MailShipped, order, l)) }

func done(to, n int, e api.Errno, many int) api.Post {
	return post(to, api.Mail{Kind: api.MailDone, Answer: api.Answer{Client: 3, Number: n, Code: e, N: many}})
}

// moved is of client 3's move of that number.
func moved(to, n int, l string) api.Post {
	return post(to, come(64*n+3, l))
}

// news is what is posted, and the news to three regions behind it.
func news(ahead ...api.Post) []api.Post {
	return append(ahead, posts.News(3)...)
}

// bench has a region, and looks at each mail whether one that was saved ahead of it, and loaded, does the same.
type bench struct {
	*region.Region
	t       *testing.T
	me      int
	regions int
}

func at(t *testing.T, me, regions int) *bench {
	t.Helper()
	r, e := region.New(me, regions)
	if e != api.OK || r == nil {
		t.Fatal(me, regions, e)
	}
	return &bench{r, t, me, regions}
}

func (b *bench) again() *region.Region {
	b.t.Helper()
	r, e := region.Load(b.Save(), b.me, b.regions)
	if e != api.OK || r == nil {
		b.t.Fatalf("not loaded: %d, %q", e, b.Save())
	}
	alike(b.t, b.Region, r)
	return r
}

// mail looks what is posted; whatever comes, the shelf is sound.
func (b *bench) mail(m api.Mail, from int, want ...api.Post) {
	b.t.Helper()
	twin := b.again()
	got := b.Mail(m, from)
	other := twin.Mail(m, from)
	if !posts.Same(got, want) {
		b.t.Fatalf("%+v from %d: posted %s\nnot %s", m, from, posts.Text(got), posts.Text(want))
	}
	if !posts.Same(got, other) {
		b.t.Fatalf("%+v from %d: the one that was loaded posted %s\nnot %s", m, from, posts.Text(other), posts.Text(got))
	}
	if !b.Sound() {
		b.t.Fatal("not sound")
	}
	alike(b.t, b.Region, twin)
	b.again()
}

// still looks whether that is posted, with nothing that changes.
func (b *bench) still(m api.Mail, from int, want ...api.Post) {
	b.t.Helper()
	before := b.Save()
	if got := b.Mail(m, from); !posts.Same(got, want) {
		b.t.Fatalf("%+v from %d: posted %s\nnot %s", m, from, posts.Text(got), posts.Text(want))
	}
	if !bytes.Equal(b.Save(), before) {
		b.t.Fatalf("%+v from %d changed something: %q, not %q", m, from, b.Save(), before)
	}
}

// alike looks whether two regions are the same, by all calls that change nothing.
func alike(t *testing.T, a, b *region.Region) {
	t.Helper()
	if a.Stuck() != b.Stuck() || a.Sound() != b.Sound() || !bytes.Equal(a.Pack(), b.Pack()) || !bytes.Equal(a.Save(), b.Save()) || !bytes.Equal(a.Shelf().Pack(), b.Shelf().Pack()) {
		t.Fatalf("unlike: %q\n%q", a.Save(), b.Save())
	}
	l, m := slices.Collect(a.Orders()), slices.Collect(b.Orders())
	if !slices.EqualFunc(l, m, sameHold) {
		t.Fatalf("unlike: %v and %v", l, m)
	}
	for _, h := range l {
		if !sameHold(a.Hold(h.Order), h) || !sameHold(b.Hold(h.Order), h) {
			t.Fatalf("unlike: %v, %v and %v", h, a.Hold(h.Order), b.Hold(h.Order))
		}
	}
}

func sameHold(a, b api.Hold) bool {
	return a.Order == b.Order && slices.Equal(a.Held, b.Held) && slices.Equal(a.Picked, b.Picked) && slices.Equal(a.Shipped, b.Shipped)
}

// level looks how many of a good there are: free, held, picked, set aside.
func (b *bench) level(good string, free, held, picked, aside int) {
	b.t.Helper()
	want := api.Level{Free: free, Held: held, Picked: picked, Aside: aside}
	if l := b.Shelf().Level(good); l != want {
		b.t.Fatalf("%s: %+v, not %+v", good, l, want)
	}
}

func (b *bench) flow(good string, want api.Flow) {
	b.t.Helper()
	if f := b.Shelf().Flow(good); f != want {
		b.t.Fatalf("%s: %+v, not %+v", good, f, want)
	}
}

func (b *bench) hold(order int, held, picked, shipped string) {
	b.t.Helper()
	want := api.Hold{Order: order, Held: list(held), Picked: list(picked), Shipped: list(shipped)}
	if h := b.Hold(order); !sameHold(h, want) {
		b.t.Fatalf("%+v, not %+v", h, want)
	}
}

func (b *bench) stuck(n int) {
	b.t.Helper()
	if b.Stuck() != n {
		b.t.Fatal(b.Stuck(), "not", n)
	}
}

// shelf is a shelf's code, to which some was done.
func shelf(done ...func(s *hold.Shelf)) []byte {
	s := hold.New()
	for _, do := range done {
		do(s)
	}
	return s.Pack()
}

func received(l string) func(s *hold.Shelf) {
	return func(s *hold.Shelf) { s.Do(api.DoReceive, list(l)) }
}
