package mail_test

import (
	"slices"
	"testing"

	"entrepot/api"
	"entrepot/ask"
	"entrepot/lists"
	"entrepot/mail"
)

// P13.1: the chapter's example.
func TestExample(t *testing.T) {
	if s := mail.Has(api.MailTook); s != "oi" {
		t.Error(s)
	}
}

// P13.1
func TestHas(t *testing.T) {
	for kind, want := range fields() {
		if s := mail.Has(kind); s != want {
			t.Errorf("Has(%d) = %q, not %q", kind, s, want)
		}
	}
	for _, kind := range noKinds() {
		if s := mail.Has(kind); s != "" {
			t.Errorf("Has(%d) = %q", kind, s)
		}
	}
}

// P13.1
func TestAnswers(t *testing.T) {
	kinds := map[int]int{
		api.MailTake: api.MailTook, api.MailFree: api.MailFreed, api.MailPick: api.MailPicked,
		api.MailShip: api.MailShipped, api.MailDo: api.MailDone, api.MailAsk: api.MailAnswer,
	}
	for kind := range fields() {
		if n := mail.Answers(kind); n != kinds[kind] {
			t.Errorf("Answers(%d) = %d, not %d", kind, n, kinds[kind])
		}
	}
	for _, kind := range noKinds() {
		if n := mail.Answers(kind); n != 0 {
			t.Errorf("Answers(%d) = %d", kind, n)
		}
	}
}

// P13.1
func TestMay(t *testing.T) {
	for _, m := range mays() {
		if !mail.May(m) {
			t.Errorf("%v may not be", m)
		}
		// R3: nil and the empty list are the same everywhere.
		if len(m.Items) == 0 {
			m.Items = []api.Item{}
		}
		if len(m.Ask.Items) == 0 {
			m.Ask.Items = []api.Item{}
		}
		if !mail.May(m) {
			t.Errorf("%v may not be with empty lists", m)
		}
	}
	for _, m := range mayNots() {
		if mail.May(m) {
			t.Errorf("%v may be", m)
		}
	}
}

// P13.1: which request may be says ask alone, so that no kind of request is one that mail has not.
func TestMayOfRequests(t *testing.T) {
	for kind := range 14 {
		for _, a := range asks() {
			a.Kind = kind
			for _, m := range []api.Mail{{Kind: api.MailAsk, Ask: a}, {Kind: api.MailDo, Ask: a}} {
				if mail.May(m) != ask.May(a) {
					t.Errorf("%v: %t", m, mail.May(m))
				}
			}
		}
	}
}

// P13.1
func TestSame(t *testing.T) {
	l := append(mays(), mayNots()...)
	for _, a := range l {
		b := a
		b.Items, b.Ask.Items = slices.Clone(a.Items), slices.Clone(a.Ask.Items)
		if !mail.Same(a, b) || !mail.Same(a, a) {
			t.Errorf("%v is not itself", a)
		}
		if len(a.Items) == 0 {
			a.Items, b.Items = nil, []api.Item{}
		}
		if len(a.Ask.Items) == 0 {
			a.Ask.Items, b.Ask.Items = nil, []api.Item{}
		}
		if !mail.Same(a, b) || !mail.Same(b, a) {
			t.Errorf("%v is not itself with empty lists", a)
		}
	}
	few := mays()[:60]
	for _, a := range l {
		for _, b := range few {
			if mail.Same(a, b) != same(a, b) || mail.Same(b, a) != same(a, b) {
				t.Errorf("%v, %v: %t", a, b, mail.Same(a, b))
			}
		}
	}
}

// whole has something in each field: it may not be, but it is the same as itself.
func whole() api.Mail {
	return api.Mail{
		Kind: 1, Order: 2, Items: lists.Of("a 1, b 2"),
		Ask:    api.Ask{Client: 1, Number: 2, Kind: 3, Order: 4, Region: 5, To: 6, N: 7, Good: "g", Items: lists.Of("c 1, d 2")},
		Answer: api.Answer{Client: 1, Number: 2, Code: 3, N: 4},
	}
}

// P13.1: each field alone makes another mail, whether it may be or not.
func TestSameLooksAtEachField(t *testing.T) {
	unlike := func(name string, change func(m *api.Mail)) {
		t.Helper()
		a, b := whole(), whole()
		change(&b)
		if mail.Same(a, b) || mail.Same(b, a) {
			t.Error(name, "is not looked at")
		}
	}
	for _, n := range []int{-1, 0, 9} {
		unlike("Kind", func(m *api.Mail) { m.Kind = n })
		unlike("Order", func(m *api.Mail) { m.Order = n })
		unlike("Ask.Client", func(m *api.Mail) { m.Ask.Client = n })
		unlike("Ask.Number", func(m *api.Mail) { m.Ask.Number = n })
		unlike("Ask.Kind", func(m *api.Mail) { m.Ask.Kind = n })
		unlike("Ask.Order", func(m *api.Mail) { m.Ask.Order = n })
		unlike("Ask.Region", func(m *api.Mail) { m.Ask.Region = n })
		unlike("Ask.To", func(m *api.Mail) { m.Ask.To = n })
		unlike("Ask.N", func(m *api.Mail) { m.Ask.N = n })
		unlike("Answer.Client", func(m *api.Mail) { m.Answer.Client = n })
		unlike("Answer.Number", func(m *api.Mail) { m.Answer.Number = n })
		unlike("Answer.Code", func(m *api.Mail) { m.Answer.Code = api.Errno(n) })
		unlike("Answer.N", func(m *api.Mail) { m.Answer.N = n })
	}
	unlike("Ask.Good", func(m *api.Mail) { m.Ask.Good = "" })
	unlike("Ask", func(m *api.Mail) { m.Ask = api.Ask{} })
	unlike("Answer", func(m *api.Mail) { m.Answer = api.Answer{} })
	for _, s := range []string{"", "a 1", "a 1, b 3", "a 1, c 2", "b 2, a 1", "a 1, b 2, c 1", "c 1, d 2"} {
		unlike("Items", func(m *api.Mail) { m.Items = lists.Of(s) })
	}
	for _, s := range []string{"", "c 1", "c 1, d 3", "d 2, c 1", "c 1, d 2, e 1", "a 1, b 2"} {
		unlike("Ask.Items", func(m *api.Mail) { m.Ask.Items = lists.Of(s) })
	}
	b := whole()
	b.Items = lists.Of("a 1, b 2, c 3")[:2]
	if !mail.Same(whole(), b) {
		t.Error("what lies behind the list's end is looked at")
	}
}

// R3: what is handed in stays as it is, its room too.
func TestMailStaysAsItIs(t *testing.T) {
	for _, m := range append(mays(), mayNots()...) {
		room := slices.Concat(m.Items, lists.Of("z 9"))
		asked := slices.Concat(m.Ask.Items, lists.Of("y 9, z 9"))
		m.Items, m.Ask.Items = room[:len(m.Items)], asked[:len(m.Ask.Items)]
		before, askedBefore := slices.Clone(room), slices.Clone(asked)
		mail.May(m)
		mail.Encode(m)
		mail.Same(m, m)
		if !slices.Equal(room, before) || !slices.Equal(asked, askedBefore) {
			t.Errorf("%v, %v, not %v, %v", room, asked, before, askedBefore)
		}
	}
}
