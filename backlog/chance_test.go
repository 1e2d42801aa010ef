package backlog_test

import (
	"math/rand"
	"slices"
	"testing"

	"entrepot/api"
	"entrepot/backlog"
)

// call is something that a backlog is told, and the model beside it: do both say the same?
type call func(b *backlog.Backlog, m *model) bool

func pushes(order int) call {
	return func(b *backlog.Backlog, m *model) bool { return b.Push(order) == m.push(order) }
}

func drops(order int) call {
	return func(b *backlog.Backlog, m *model) bool { return b.Drop(order) == m.drop(order) }
}

func backs(order int) call {
	return func(b *backlog.Backlog, m *model) bool { return b.Back(order) == m.back(order) }
}

func news(b *backlog.Backlog, m *model) bool {
	b.News()
	m.tell()
	return true
}

func tries(b *backlog.Backlog, m *model) bool {
	order, is := b.Try()
	want, ok := m.try()
	return order == want && is == ok
}

// P16.1, P16.2, P16.4: all calls in every order, six behind one another, on backlogs of nothing and of some.
func TestBacklogInEveryOrder(t *testing.T) {
	calls := []call{pushes(1), pushes(2), pushes(0), drops(1), drops(2), news, tries, backs(1), backs(2), backs(0)}
	ahead := []call{pushes(3), pushes(2), pushes(1), news, tries}
	for _, first := range [][]call{nil, ahead[:3], ahead[:4], ahead} {
		for n := range 1000000 {
			b, m := backlog.New(), newModel()
			for _, c := range first {
				c(b, m)
			}
			left := n
			for range 6 {
				if !calls[left%10](b, m) {
					t.Fatal(n, left)
				}
				left /= 10
			}
			if n%4 == 0 && !is(b, m.state()) {
				t.Fatalf("%d: %q, not %v", n, b.Pack(), m.state())
			}
		}
	}
}

// P16.1, P16.2, P16.4: many orders, and across codes.
func TestBacklogBesideAModel(t *testing.T) {
	r := rand.New(rand.NewSource(161))
	full, out := 0, 0
	for round := range 12 {
		b, m := backlog.New(), newModel()
		// So that some get full.
		orders := []int{4, 40, 400}[round%3]
		for i := range 1500 {
			order := r.Intn(orders + 1)
			l := []call{pushes(order), pushes(order + r.Intn(2)), pushes(order), drops(order), tries, backs(order), backs(m.out), news}
			if i%400 < 100 && round%2 == 0 {
				l = append(l[:3], tries)
			}
			if len(m.orders) == 256 {
				full++
			}
			if m.out > 0 {
				out++
			}
			if !l[r.Intn(len(l))](b, m) {
				t.Fatal(round, i)
			}
			if i%10 == 0 && !is(b, m.state()) {
				t.Fatalf("%d, %d: %q, not %v", round, i, b.Pack(), m.state())
			}
			if r.Intn(20) == 0 {
				again, e := backlog.Unpack(b.Pack())
				if e != api.OK {
					t.Fatal(round, i, e)
				}
				b = again
			}
		}
	}
	if full < 20 || out < 1000 {
		t.Error("full:", full, "out:", out)
	}
}

// P16.3: between two News each is tried once at most, the ones that came first ahead of others; and all that are there are tried, if each is back.
func TestEachIsTriedOnce(t *testing.T) {
	r := rand.New(rand.NewSource(163))
	for range 300 {
		b := backlog.New()
		var came []int
		for range 20 {
			for range r.Intn(4) {
				order := 1 + r.Intn(1000)
				if b.Push(order) == api.OK {
					came = append(came, order)
				}
			}
			b.News()
			there := slices.Clone(came)
			var tried []int
			for order, is := b.Try(); is; order, is = b.Try() {
				tried = append(tried, order)
				if b.Out() != order || b.Place(order) != slices.Index(came, order) {
					t.Fatal(order, b.Out(), b.Place(order), came)
				}
				switch r.Intn(5) {
				case 0:
					// It is held, or gone.
					b.Drop(order)
					came = slices.DeleteFunc(came, func(other int) bool { return other == order })
				case 1:
					if late := 1 + r.Intn(1000); b.Push(late) == api.OK {
						came = append(came, late)
					}
					b.Back(order)
				default:
					b.Back(order)
				}
			}
			if !slices.Equal(tried, there) {
				t.Fatal(tried, there)
			}
		}
		if b.Len() != len(came) {
			t.Fatal(b.Len(), len(came))
		}
	}
}

// P16.3: whatever is told between, nobody passes another one that was there, and was ready.
func TestNobodyPasses(t *testing.T) {
	r := rand.New(rand.NewSource(164))
	for range 300 {
		b := backlog.New()
		tried := map[int]int{}
		for range 200 {
			order := 1 + r.Intn(9)
			switch r.Intn(6) {
			case 0:
				b.Push(order)
			case 1:
				if b.Drop(order) {
					delete(tried, order)
				}
			case 2:
				b.News()
				clear(tried)
			case 3:
				b.Back(b.Out())
			default:
				ready := all(b)
				out := b.Out()
				tries, is := b.Try()
				if !is {
					continue
				}
				tried[tries]++
				if tried[tries] > 1 || out != 0 {
					t.Fatal("tried again, or while one is out:", tries, out)
				}
				for _, l := range ready[:b.Place(tries)] {
					if l.ready {
						t.Fatal(tries, "passes", l.order)
					}
				}
			}
		}
	}
}
