package model_test

import (
	"math/rand"
	"slices"
	"testing"

	"entrepot/api"
	"entrepot/ask"
	"entrepot/asks"
	"entrepot/model"
)

// plain reckons as the chapter tells it, group by group, request by request.
type plain struct {
	asks    []api.Ask
	answers []api.Answer
}

// groups are lists of requests of one client and number, in no order that matters.
func (p plain) groups() [][]api.Ask {
	var groups [][]api.Ask
next:
	for _, a := range p.asks {
		if !ask.May(a) {
			continue
		}
		for i, g := range groups {
			if g[0].Client == a.Client && g[0].Number == a.Number {
				groups[i] = append(g, a)
				continue next
			}
		}
		groups = append(groups, []api.Ask{a})
	}
	return groups
}

func (p plain) isPlain(group []api.Ask) bool {
	for _, a := range group {
		if string(ask.Body(a)) != string(ask.Body(group[0])) {
			return false
		}
	}
	return true
}

func (p plain) state(client, number int) int {
	for _, a := range p.answers {
		if a.Client == client && a.Number == number {
			switch a.Code {
			case 0:
				return 1
			case 2, 90, 91:
				return 3
			}
			return 2
		}
	}
	return 3
}

func (p plain) moves(a api.Ask, kind int, good string) int {
	n := 0
	switch {
	case a.Kind != kind:
	case kind >= 5 && kind <= 10 && kind != 7:
		for _, i := range a.Items {
			if i.Good == good {
				n = i.N
			}
		}
	case kind == 4:
		for _, o := range p.asks {
			if !ask.May(o) || o.Kind != 1 || 64*o.Number+o.Client != a.Order {
				continue
			}
			for _, i := range o.Items {
				if i.Good == good && i.N > n {
					n = i.N
				}
			}
		}
	}
	return n
}

func (p plain) span(kind int, good string) api.Range {
	var r api.Range
	for _, g := range p.groups() {
		state := p.state(g[0].Client, g[0].Number)
		if state == 1 && p.isPlain(g) {
			r.Least += p.moves(g[0], kind, good)
		}
		most := 0
		for _, a := range g {
			most = max(most, p.moves(a, kind, good))
		}
		if state != 2 {
			r.Most += most
		}
	}
	return r
}

func (p plain) orders() []int {
	var l []int
	for _, a := range p.asks {
		if o := 64*a.Number + a.Client; a.Kind == 1 && ask.May(a) && !slices.Contains(l, o) {
			l = append(l, o)
		}
	}
	slices.Sort(l)
	return l
}

func (p plain) wanted(order int) []api.Item {
	for _, a := range p.asks {
		if a.Kind == 1 && ask.May(a) && 64*a.Number+a.Client == order {
			return a.Items
		}
	}
	return nil
}

func (p plain) goods() []string {
	var l []string
	for _, a := range p.asks {
		if !ask.May(a) {
			continue
		}
		if a.Kind == 7 {
			l = append(l, a.Good)
		}
		for _, i := range a.Items {
			l = append(l, i.Good)
		}
	}
	slices.Sort(l)
	return slices.Compact(l)
}

// anyPlain has few clients and numbers, so that groups have more than one request.
func anyPlain(r *rand.Rand) plain {
	var p plain
	for range r.Intn(30) {
		client, number := r.Intn(3), 1+r.Intn(8)
		switch r.Intn(10) {
		case 0:
			l := append(broken(client, number), nobody()...)
			p.asks = append(p.asks, l[r.Intn(len(l))])
		case 1, 2:
			if len(p.asks) > 0 {
				p.asks = append(p.asks, p.asks[r.Intn(len(p.asks))])
			}
		case 3:
			if l := p.orders(); len(l) > 0 {
				p.asks = append(p.asks, ship(client, number, l[r.Intn(len(l))]))
			}
		case 4:
			p.asks = append(p.asks, asks.Order(client, number, "a 2, b 3", r.Intn(2)))
		default:
			a := asks.Any(r.Intn, client, number, 3, []int{64, 129})
			if a.Good != "" && r.Intn(2) == 0 {
				a.Good = "c"
			}
			p.asks = append(p.asks, a)
		}
	}
	for range r.Intn(20) {
		p.answers = append(p.answers, anyAnswer(r))
	}
	return p
}

func anyAnswer(r *rand.Rand) api.Answer {
	codes := []api.Errno{api.OK, api.OK, api.OK, api.ErrClash, api.ErrStale, api.ErrFull, api.ErrLess, api.ErrWait, api.ErrArg, api.ErrNone, -1}
	return api.Answer{Client: r.Intn(3), Number: 1 + r.Intn(8), Code: codes[r.Intn(len(codes))], N: r.Intn(3)}
}

// P25.1, P25.2: as reckoned plainly, of anything.
func TestByChance(t *testing.T) {
	r := rand.New(rand.NewSource(25))
	seen := map[string]int{}
	for range 2000 {
		p := anyPlain(r)
		if got := model.Orders(p.asks); !slices.Equal(got, p.orders()) {
			t.Fatal(p, got)
		}
		if got := slices.Collect(model.Goods(p.asks)); !slices.Equal(got, p.goods()) {
			t.Fatal(p, got)
		}
		for _, order := range append(p.orders(), 0, 64, 131, 900) {
			if got := model.Wanted(order, p.asks); !slices.Equal(got, p.wanted(order)) {
				t.Fatal(p, order, got)
			}
		}
		for _, g := range p.groups() {
			client, number := g[0].Client, g[0].Number
			if is := model.Plain(client, number, p.asks); is != p.isPlain(g) {
				t.Fatal(p, client, number, is)
			}
			if n := model.State(client, number, p.answers); n != p.state(client, number) {
				t.Fatal(p, client, number, n)
			}
		}
		for kind := range 13 {
			for _, good := range []string{"a", "b", "x"} {
				got, want := model.Span(kind, good, p.asks, p.answers), p.span(kind, good)
				if got != want {
					t.Fatalf("%+v, kind %d, %s: %v, not %v", p, kind, good, got, want)
				}
				seen["least"] += min(want.Least, 1)
				seen["more"] += min(want.Most-want.Least, 1)
				if kind == api.AskShip {
					seen["shipped"] += min(want.Least, 1)
				}
			}
		}
	}
	for _, what := range []string{"least", "more", "shipped"} {
		if seen[what] < 100 {
			t.Error(what, seen)
		}
	}
}

// P25.3: with more answers, of groups that were open, Least does not fall, and Most does not rise.
func TestMoreAnswers(t *testing.T) {
	r := rand.New(rand.NewSource(253))
	rose, fell := 0, 0
	for range 3000 {
		p := anyPlain(r)
		for range 6 {
			a := anyAnswer(r)
			if model.State(a.Client, a.Number, p.answers) != 3 {
				continue
			}
			more := append(slices.Clone(p.answers), a)
			for kind := 1; kind <= 11; kind++ {
				before, behind := model.Span(kind, "a", p.asks, p.answers), model.Span(kind, "a", p.asks, more)
				if behind.Least < before.Least || behind.Most > before.Most || behind.Least > behind.Most {
					t.Fatalf("%+v, kind %d: %v, with %v %v", p, kind, before, a, behind)
				}
				rose += min(behind.Least-before.Least, 1)
				fell += min(before.Most-behind.Most, 1)
			}
			p.answers = more
		}
	}
	if rose < 100 || fell < 100 {
		t.Error(rose, fell)
	}
}
