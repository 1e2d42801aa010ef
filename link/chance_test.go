package link_test

import (
	"math/rand"
	"slices"
	"strings"
	"testing"

	"entrepot/api"
	"entrepot/link"
)

// call is something that an end is told, and the model beside it: do both say the same?
type call func(e *link.End, m *model) bool

func sends(body string, now int) call {
	return func(e *link.End, m *model) bool {
		p, err := e.Send([]byte(body), now)
		want, no := m.send(body, now)
		return err == no && same(p, want)
	}
}

func ticks(now int) call {
	return func(e *link.End, m *model) bool {
		return slices.EqualFunc(e.Tick(now), m.tick(now), same)
	}
}

func ons(p api.Packet) call {
	return func(e *link.End, m *model) bool {
		body, is, back := e.On(p)
		want, ok, q := m.on(p)
		return string(body) == want && is == ok && same(back, q)
	}
}

// isModel says whether an end has what the model has.
func isModel(e *link.End, m *model) bool {
	s := m.state()
	return string(e.Pack()) == string(code(s)) && e.Open() == len(s.open) && e.Mark() == s.mark && e.Sent() == s.sent
}

// P12.1 to P12.3: all calls in every order, five behind one another.
func TestEndInEveryOrder(t *testing.T) {
	calls := []call{
		sends("a", 0), sends("b", 3), sends(strings.Repeat("c", 2049), 0),
		ticks(2), ticks(5),
		ons(packet(0, 0, "")), ons(packet(0, 1, "")), ons(packet(0, 9, "")),
		ons(packet(1, 0, "x")), ons(packet(1, 2, "x")), ons(packet(2, 1, "y")), ons(packet(3, 0, "")),
		ons(packet(0, 2, "z")), ons(packet(-1, 2, "")),
	}
	many := len(calls) * len(calls) * len(calls) * len(calls) * len(calls)
	for n := range many {
		e, m := link.New(), &model{}
		left := n
		for range 5 {
			if !calls[left%len(calls)](e, m) {
				t.Fatal(n, left)
			}
			left /= len(calls)
		}
		if !isModel(e, m) {
			t.Fatalf("%d: %q, not %q", n, e.Pack(), code(m.state()))
		}
	}
}

// P12.1 to P12.3, P12.5: all as the model has it, whatever was told ahead, and across codes.
func TestEndBesideAModel(t *testing.T) {
	r := rand.New(rand.NewSource(3))
	full := 0
	for round := range 40 {
		e, m := link.New(), &model{}
		now := 0
		for i := range 600 {
			now += r.Intn(4)
			body := strings.Repeat("x", r.Intn(2051)*r.Intn(2)*r.Intn(2))
			ack := m.acked + r.Intn(6) - 3
			if round%2 == 0 && r.Intn(8) > 0 {
				// So that it gets full now and then.
				ack = 0
			}
			l := []call{sends(body, now), sends("short", now), ticks(now), ons(packet(m.mark+r.Intn(4)-1, ack, body)), ons(packet(0, ack, ""))}
			if len(m.all)-m.acked == 64 {
				full++
			}
			if !l[r.Intn(len(l))](e, m) {
				t.Fatal(round, i)
			}
			if !isModel(e, m) {
				t.Fatalf("%d, %d: %q, not %q", round, i, e.Pack(), code(m.state()))
			}
			if r.Intn(10) == 0 {
				again, err := link.Unpack(e.Pack())
				if err != api.OK {
					t.Fatal(round, i, err)
				}
				e = again
			}
		}
	}
	if full < 100 {
		t.Error("full:", full)
	}
}
