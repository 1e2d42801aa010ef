package audit_test

import (
	"testing"

	"entrepot/api"
	"entrepot/asks"
)

// P26.2: all nodes are there.
func TestQuietOfNodes(t *testing.T) {
	b := begin(t, 3, 64)
	for i := range 3 {
		b.crash(i)
		b.but("quiet")
		b.start(i)
		b.but()
	}
}

// P26.2: no mail is not known to have come, of whichever node; late mail too.
func TestQuietOfMail(t *testing.T) {
	for from := range 3 {
		for to := range 3 {
			if from == to {
				continue
			}
			b := begin(t, 3, 64)
			b.does(api.Act{Kind: api.ActAsk, A: from, Ask: asks.Low(to, 1, 1)})
			if b.Node(from).Open() != 1 || b.Node(to).Open() != 0 {
				t.Fatal(from, to)
			}
			b.but("quiet")
			// It comes; the answer goes back, and then what tells that this came.
			b.does(api.Act{Kind: api.ActDeliver})
			if b.Node(to).Open() != 1 {
				t.Fatal(from, to)
			}
			b.but("quiet")
			b.rest()
			b.but()
		}
	}
	b := begin(t, 2, 512)
	for n := 1; n <= 70; n++ {
		b.does(api.Act{Kind: api.ActAsk, A: 0, Ask: asks.Low(1, n, 1)})
	}
	if b.Node(0).Late() != 6 {
		t.Fatal(b.Node(0).Late())
	}
	b.but("quiet")
	b.rest()
	b.but()
}

// P26.2: letters that nobody waits for are none of it.
func TestQuietOfLetters(t *testing.T) {
	b := begin(t, 2, 64)
	b.does(api.Act{Kind: api.ActAsk, A: 0, Ask: asks.Low(1, 1, 1)})
	b.does(api.Act{Kind: api.ActAgain})
	b.does(api.Act{Kind: api.ActDeliver})
	for b.Way() > 1 {
		b.does(api.Act{Kind: api.ActDeliver, N: 1})
	}
	b.but()
}

// P26.2: no request is open at a desk, though no mail and no saga waits for it.
func TestQuietOfRequests(t *testing.T) {
	for i := range 3 {
		b := begin(t, 3, 64)
		b.Node(i).Desk().Ask(asks.Receive(i, 1, 0, "a 1"), i)
		if b.Node(i).Desk().Open() != 1 {
			t.Fatal(i)
		}
		b.but("quiet")
		b.desk(i, 0, mailDone(i, 1))
		b.but()
	}
}

// P26.2: no saga waits for regions, though all requests are answered.
func TestQuietOfSagas(t *testing.T) {
	for i := range 3 {
		b := begin(t, 3, 256)
		b.tells(asks.Order(i, 1, "a 5", 1))
		b.tells(asks.Order(i, 2, "b 5", 0))
		b.rest()
		b.but()
		b.desk(i, 0, api.Mail{Kind: api.MailNews})
		if n := b.Node(i); n.Desk().Open() != 0 || n.Open() != 0 {
			t.Fatal(i)
		}
		b.but("quiet")
		for k := range 3 {
			b.desk(i, (i+k)%3, about(api.MailTook, 64+i, ""))
		}
		b.but()
	}
}

// ordered is a world of three regions in which order 64 holds a 5 of region 0, a 5 of region 1 and b 2 of region 2; order 65 holds a 2 of region 1, order 66 nothing: it waits.
func ordered(t *testing.T) *bench {
	t.Helper()
	b := begin(t, 3, 512)
	b.done(asks.Receive(0, 2, 0, "a 5"))
	b.done(asks.Receive(0, 3, 1, "a 8"))
	b.done(asks.Receive(0, 4, 2, "b 9"))
	b.done(asks.Order(0, 1, "a 10, b 2", 0))
	b.done(asks.Order(1, 1, "a 2", 0))
	b.tells(asks.Order(2, 1, "a 2", 1))
	b.rest()
	b.but()
	return b
}

// P26.2: each region holds for each order just what its saga says, and for no others.
func TestHeld(t *testing.T) {
	takes, frees := func(order int, l string) api.Mail { return about(api.MailTake, order, l) }, about(api.MailFree, 64, "")
	for _, c := range []struct {
		what string
		do   func(b *bench)
	}{
		{"for nobody", func(b *bench) { b.region(1, takes(900, "a 1")) }},
		{"for one that waits", func(b *bench) { b.region(1, takes(66, "a 1")) }},
		{"more", func(b *bench) { b.region(1, takes(65, "a 1")) }},
		{"another good too", func(b *bench) { b.region(2, takes(64, "b 1")) }},
		{"in another region too", func(b *bench) { b.region(2, takes(65, "b 1")) }},
		{"nothing of it", func(b *bench) { b.region(0, frees) }},
		{"less", func(b *bench) { b.region(1, frees); b.region(1, takes(64, "a 4")) }},
		{"for another one", func(b *bench) { b.region(0, frees); b.region(0, takes(65, "a 5")) }},
		{"in the last region", func(b *bench) { b.region(2, frees) }},
		{"another good", func(b *bench) {
			b.done(asks.Receive(0, 9, 0, "c 5"))
			b.region(0, frees)
			b.region(0, takes(64, "c 5"))
		}},
		{"in another region", func(b *bench) {
			b.done(asks.Receive(0, 9, 2, "a 5"))
			b.region(0, frees)
			b.region(2, takes(64, "a 5"))
		}},
		{"what a saga does not have", func(b *bench) {
			// Its desk is told that more is there than there is: the order that waits holds a 2 of region 2.
			b.desk(2, 0, api.Mail{Kind: api.MailNews})
			b.desk(2, 2, about(api.MailTook, 66, "a 2"))
		}},
	} {
		b := ordered(t)
		c.do(b)
		if b.look()["held"] {
			t.Error(c.what)
		}
		b.but("held")
		// It can't be told of one that is not quiet.
		b.Node(0).Desk().Ask(asks.Receive(0, 90, 0, "a 1"), 0)
		b.but("quiet")
	}
}

// P26.2: held, picked and shipped together.
func TestHeldTogether(t *testing.T) {
	b := ordered(t)
	b.region(0, about(api.MailPick, 64, ""))
	b.but()
	b.region(0, about(api.MailShip, 64, ""))
	// Nobody asked for it to be shipped.
	b.but("flows")
	b = ordered(t)
	b.region(1, about(api.MailPick, 64, ""))
	b.region(1, about(api.MailTake, 65, "a 1"))
	b.region(1, about(api.MailPick, 65, ""))
	b.but("held")
}

// P26.2: orders that are over: what was shipped counts, what was let go is nowhere.
func TestHeldOfOrdersThatAreOver(t *testing.T) {
	b := ordered(t)
	b.done(asks.About(api.AskCancel, 1, 2, 65))
	b.done(asks.About(api.AskPick, 0, 6, 64))
	b.but()
	b.done(asks.About(api.AskShip, 0, 7, 64))
	b.but()
	if s, is := b.Node(0).Desk().Saga(64); !is || s.State != api.SagaShipped {
		t.Fatal(s)
	}
	if s, is := b.Node(1).Desk().Saga(65); !is || s.State != api.SagaGone {
		t.Fatal(s)
	}
	// The one that waited got what was let go.
	if s, is := b.Node(2).Desk().Saga(66); !is || s.State != api.SagaHeld {
		t.Fatal(s)
	}
	b.region(1, about(api.MailTake, 65, "a 1"))
	b.but("held")
}
