package ident_test

import (
	"bytes"
	"math/rand"
	"slices"
	"testing"

	"entrepot/api"
	"entrepot/ident"
)

// model is a table reckoned plainly: marks, and what was seen, all in lists that are searched.
type model struct {
	marks [api.MaxClients]int
	seen  [api.MaxClients][]seen
}

func (m *model) find(client, number int) int {
	return slices.IndexFunc(m.seen[client], func(s seen) bool { return s.number == number })
}

func (m *model) ask(client, number int, body string) (int, api.Answer) {
	i := m.find(client, number)
	switch {
	case number < max(1, m.marks[client]):
		return api.VerdictStale, api.Answer{}
	case i >= 0 && m.seen[client][i].body != body:
		return api.VerdictClash, api.Answer{}
	case i >= 0 && m.seen[client][i].done:
		return api.VerdictDone, m.seen[client][i].answer(client)
	case i >= 0:
		return api.VerdictOpen, api.Answer{}
	case len(m.seen[client]) == 128:
		return api.VerdictFull, api.Answer{}
	}
	m.seen[client] = append(m.seen[client], seen{number: number, body: body})
	return api.VerdictNew, api.Answer{}
}

func (m *model) tell(a api.Answer) api.Errno {
	i := m.find(a.Client, a.Number)
	switch {
	case i < 0:
		return api.ErrNone
	case m.seen[a.Client][i].done:
		return api.ErrTwice
	}
	s := &m.seen[a.Client][i]
	s.done, s.code, s.n = true, a.Code, a.N
	return api.OK
}

func (m *model) low(client, mark int) api.Errno {
	if slices.ContainsFunc(m.seen[client], func(s seen) bool { return s.number < mark && !s.done }) {
		return api.ErrState
	}
	m.seen[client] = slices.DeleteFunc(m.seen[client], func(s seen) bool { return s.number < mark })
	m.marks[client] = max(mark, m.marks[client])
	return api.OK
}

func (m *model) lines() []line {
	var l []line
	for client := range m.marks {
		s := slices.Clone(m.seen[client])
		slices.SortFunc(s, func(a, b seen) int { return a.number - b.number })
		if m.marks[client] > 1 || len(s) > 0 {
			l = append(l, line{client, max(1, m.marks[client]), s})
		}
	}
	return l
}

// step does something by chance to both, and says whether they answer the same; and what it was.
func step(r *rand.Rand, x *ident.Table, m *model, spread int) (bool, int) {
	client := []int{0, 1, 30, 63}[r.Intn(4)]
	number := max(1, m.marks[client]) + r.Intn(spread) - spread/16
	if number < 1 {
		number = 1
	}
	switch r.Intn(8) {
	case 0, 1, 2:
		a := api.Answer{Client: client, Number: number, Code: api.Errno(r.Intn(1001)), N: r.Intn(100) - 50}
		want := m.tell(a)
		return x.Tell(a) == want, int(want)
	case 3:
		if number -= spread / 2; number < 1 {
			number = 1
		}
		want := m.low(client, number)
		return x.Low(client, number) == want, int(want)
	}
	body := []string{"a", "b", "", "long body"}[number%4]
	if r.Intn(8) == 0 {
		body = "another"
	}
	v, a := m.ask(client, number, body)
	got, b := x.Ask(client, number, []byte(body))
	return got == v && a == b, 1000 + v
}

// P9.1 to P9.3: all as the model has it, whatever was told ahead, and across codes.
func TestTableBesideAModel(t *testing.T) {
	r := rand.New(rand.NewSource(5))
	met := map[int]int{}
	for round := range 12 {
		x, m := ident.New(), &model{}
		spread := []int{8, 40, 300, 900}[round%4]
		for i := range 3000 {
			same, what := step(r, x, m, spread)
			if !same {
				t.Fatal(round, i, what)
			}
			met[what]++
			if i%50 == 0 {
				if b := x.Pack(); !bytes.Equal(b, code(m.lines()...)) {
					t.Fatalf("%x", b)
				}
			}
			if i%500 == 0 {
				y, e := ident.Unpack(x.Pack())
				if e != api.OK {
					t.Fatal(e)
				}
				x = y
			}
		}
		has(t, "at the end", x, m.lines()...)
	}
	for _, what := range []int{int(api.OK), int(api.ErrNone), int(api.ErrTwice), int(api.ErrState), 1000 + api.VerdictNew, 1000 + api.VerdictOpen, 1000 + api.VerdictDone, 1000 + api.VerdictClash, 1000 + api.VerdictStale, 1000 + api.VerdictFull} {
		if met[what] < 50 {
			t.Errorf("%d was met %d times", what, met[what])
		}
	}
}

// P9.2: what is unpacked is packed to the same bytes, whatever bytes they are.
func TestUnpackOfChangedBytes(t *testing.T) {
	r := rand.New(rand.NewSource(6))
	x, _ := mixed(t)
	whole := x.Pack()
	taken := 0
	for range 300000 {
		b := slices.Clone(whole)
		for range 1 + r.Intn(3) {
			b[r.Intn(len(b))] = byte(r.Intn(256))
		}
		x, e := ident.Unpack(b)
		if e == api.ErrCode && x == nil {
			continue
		}
		taken++
		if e != api.OK || !bytes.Equal(x.Pack(), b) {
			t.Fatalf("%x: %d, %x", b, e, x.Pack())
		}
	}
	if taken < 1000 {
		t.Error("taken:", taken)
	}
}
