package world_test

import (
	"bytes"
	"slices"
	"testing"

	"entrepot/api"
	"entrepot/ask"
	"entrepot/asks"
	"entrepot/node"
	"entrepot/sector"
	"entrepot/world"
)

// Acts.

func act(kind, region int) api.Act { return api.Act{Kind: kind, A: region} }
func at(kind, n int) api.Act       { return api.Act{Kind: kind, N: n} }
func tick(region int) api.Act      { return act(api.ActTick, region) }
func start(region int) api.Act     { return act(api.ActStart, region) }
func round() api.Act               { return api.Act{Kind: api.ActRound} }

func tells(region int, a api.Ask) api.Act {
	return api.Act{Kind: api.ActAsk, A: region, Ask: a}
}

func bytesTo(region int, b []byte) api.Act {
	return api.Act{Kind: api.ActBytes, A: region, Body: b}
}

func stop(region, calls int) api.Act {
	return api.Act{Kind: api.ActStop, A: region, N: calls}
}

// crash keeps these sectors, and of none a part.
func crash(region int, keep ...int) api.Act {
	return api.Act{Kind: api.ActCrash, A: region, Keep: keep, Torn: -1}
}

// plain is a world reckoned plainly: all answers that came stay, in order.
type plain struct {
	is      api.World
	devices []*sector.Device
	nodes   []*node.Node
	way     []letter
	told    []api.Answer
	asked   []api.Ask
}

type letter struct {
	from, to int
	packet   []byte
}

func newPlain(t *testing.T, w api.World) *plain {
	t.Helper()
	p := &plain{is: w}
	for me := range w.Regions {
		d, _ := sector.New(w.Sectors)
		n, e := node.Open(d, me, w.Regions)
		if e != api.OK {
			t.Fatal(e)
		}
		p.devices, p.nodes = append(p.devices, d), append(p.nodes, n)
	}
	return p
}

func (p *plain) sent(from int, l []api.Sent, e api.Errno) api.Errno {
	for _, s := range l {
		if s.Client && s.To < p.is.Clients {
			p.told = append(p.told, s.Answer)
		}
		if !s.Client && len(p.way) < 4096 {
			p.way = append(p.way, letter{from, s.To, s.Packet})
		}
	}
	return e
}

func (p *plain) come(l letter) {
	if n := p.nodes[l.to]; n != nil {
		sent, e := n.On(l.from, l.packet)
		p.sent(l.to, sent, e)
	}
}

// letter is of acts on letters.
func (p *plain) letter(a api.Act) api.Errno {
	many := len(p.way)
	if many == 0 {
		return api.ErrNone
	}
	place := a.N % many
	if place < 0 {
		place += many
	}
	l := p.way[place]
	if a.Kind == api.ActAgain {
		if many == 4096 {
			return api.ErrFull
		}
		p.way = append(p.way, l)
		return api.OK
	}
	p.way = append(append([]letter{}, p.way[:place]...), p.way[place+1:]...)
	if a.Kind == api.ActDeliver {
		p.come(l)
	}
	return api.OK
}

func (p *plain) round() {
	for me, n := range p.nodes {
		if n != nil {
			l, e := n.Tick()
			p.sent(me, l, e)
		}
	}
	for i := 0; i < 4096 && len(p.way) > 0; i++ {
		p.letter(at(api.ActDeliver, 0))
	}
}

func (p *plain) ask(me int, b []byte) api.Errno {
	l, e := p.nodes[me].Ask(b)
	if e == api.OK || e == api.ErrOff {
		a, _ := ask.Decode(b)
		p.asked = append(p.asked, a)
	}
	return p.sent(me, l, e)
}

func (p *plain) do(a api.Act) api.Errno {
	if a.Kind < 1 || a.Kind > 11 {
		return api.ErrArg
	}
	if a.Kind == api.ActDeliver || a.Kind == api.ActLose || a.Kind == api.ActAgain {
		return p.letter(a)
	}
	if a.Kind == api.ActRound {
		p.round()
		return api.OK
	}
	if a.A < 0 || a.A >= p.is.Regions {
		return api.ErrArg
	}
	n, d := p.nodes[a.A], p.devices[a.A]
	if a.Kind == api.ActStop {
		d.Stop(a.N)
		return api.OK
	}
	if a.Kind == api.ActStart {
		if n != nil {
			return api.ErrTwice
		}
		d.Crash(nil, -1, 0)
		n, e := node.Open(d, a.A, p.is.Regions)
		p.nodes[a.A] = n
		return e
	}
	if n == nil {
		return api.ErrNone
	}
	if a.Kind == api.ActCrash {
		e := d.Crash(a.Keep, a.Torn, a.Bytes)
		if e == api.OK {
			p.nodes[a.A] = nil
		}
		return e
	}
	if a.Kind == api.ActTick {
		l, e := n.Tick()
		return p.sent(a.A, l, e)
	}
	if a.Kind == api.ActCheck {
		return n.Checkpoint()
	}
	if a.Kind == api.ActBytes {
		return p.ask(a.A, a.Body)
	}
	if !ask.May(a.Ask) {
		return api.ErrArg
	}
	return p.ask(a.A, asks.Code(a.Ask))
}

func passing(a api.Answer) bool {
	return a.Code == 90 || a.Code == 91 || a.Code == 2
}

// answers are all of them, by clients, then numbers; and whether a client got two of one number that are unlike.
func (p *plain) answers() ([]api.Answer, bool) {
	var l []api.Answer
	unlike := false
	for client := range 64 {
		var own []api.Answer
		for _, a := range p.told {
			if a.Client == client {
				own = append(own, a)
			}
		}
		slices.SortStableFunc(own, func(a, b api.Answer) int { return a.Number - b.Number })
		for len(own) > 0 {
			same := func(a api.Answer) bool { return a.Number == own[0].Number }
			end := slices.IndexFunc(own, func(a api.Answer) bool { return !same(a) })
			if end < 0 {
				end = len(own)
			}
			group := own[:end]
			own = own[end:]
			firm := slices.DeleteFunc(slices.Clone(group), passing)
			if len(firm) == 0 {
				l = append(l, group[0])
				continue
			}
			l = append(l, firm[0])
			unlike = unlike || slices.ContainsFunc(firm, func(a api.Answer) bool { return a != firm[0] })
		}
	}
	return l, unlike
}

// bench has a world, a plain one, and another world: all of them do the same.
type bench struct {
	*world.World
	t     *testing.T
	is    api.World
	plain *plain
	twin  *world.World
}

func begin(t *testing.T, regions, sectors, clients int) *bench {
	t.Helper()
	is := api.World{Regions: regions, Sectors: sectors, Clients: clients}
	w, e := world.New(is)
	twin, f := world.New(is)
	if e != api.OK || f != api.OK {
		t.Fatal(e, f)
	}
	b := &bench{w, t, is, newPlain(t, is), twin}
	b.look()
	return b
}

// does looks what an act is answered.
func (b *bench) does(a api.Act, want api.Errno) {
	b.t.Helper()
	if e := b.act(a); e != want {
		b.t.Fatalf("%+v: %d, not %d", a, e, want)
	}
}

// act has all of them do it.
func (b *bench) act(a api.Act) api.Errno {
	b.t.Helper()
	e := b.quick(a)
	b.look()
	return e
}

// quick looks at what the act is answered alone.
func (b *bench) quick(a api.Act) api.Errno {
	b.t.Helper()
	e, f, want := b.Do(a), b.twin.Do(a), b.plain.do(a)
	if e != want || f != want {
		b.t.Fatalf("%+v: %d, and %d, not %d", a, e, f, want)
	}
	return e
}

func (b *bench) look() {
	b.t.Helper()
	b.same("the world", b.World)
	b.same("its twin", b.twin)
}

// same looks whether a world is as the plain one, by all calls that change nothing.
func (b *bench) same(name string, w *world.World) {
	b.t.Helper()
	p := b.plain
	up := 0
	for me, n := range p.nodes {
		if n != nil {
			up++
		}
		if (w.Node(me) == nil) != (n == nil) || !bytes.Equal(w.Node(me).State(), n.State()) || w.Node(me).Used() != n.Used() || w.Node(me).Len() != n.Len() {
			b.t.Fatalf("%s, region %d: %q, not %q", name, me, w.Node(me).State(), n.State())
		}
		if w.Off(me) != p.devices[me].Off() {
			b.t.Fatal(name, me, w.Off(me))
		}
	}
	if w.Regions() != p.is.Regions || w.Up() != up || w.Way() != len(p.way) {
		b.t.Fatal(name, w.Regions(), w.Up(), w.Way(), "not", p.is.Regions, up, len(p.way))
	}
	answers, unlike := p.answers()
	if l := slices.Collect(w.Answers()); !slices.Equal(l, answers) || w.Unlike() != unlike {
		b.t.Fatalf("%s: %+v, %v, not %+v, %v", name, l, w.Unlike(), answers, unlike)
	}
	if l := slices.Collect(w.Asked()); !slices.EqualFunc(l, p.asked, ask.Same) {
		b.t.Fatalf("%s: %+v, not %+v", name, l, p.asked)
	}
}

// answered looks whether a client has that answer, of the number 0.
func (b *bench) answered(client, number int, e api.Errno) {
	b.t.Helper()
	want := api.Answer{Client: client, Number: number, Code: e}
	if a, is := b.Answer(client, number); !is || a != want {
		b.t.Fatalf("%v %+v, not %+v", is, a, want)
	}
}

func (b *bench) notAnswered(client, number int) {
	b.t.Helper()
	if a, is := b.Answer(client, number); is || a != (api.Answer{}) {
		b.t.Fatalf("%v %+v", is, a)
	}
}

// counts looks how many letters are on their way, and how many nodes are there.
func (b *bench) counts(way, up int) {
	b.t.Helper()
	if b.Way() != way || b.Up() != up {
		b.t.Fatalf("%d on their way, %d up, not %d, %d", b.Way(), b.Up(), way, up)
	}
}

// told looks how many inputs each node was told; -1 of one that is down.
func (b *bench) told(want ...int) {
	b.t.Helper()
	for me, n := range want {
		if (b.Node(me) == nil) != (n < 0) || b.Node(me).Len() != max(n, 0) {
			b.t.Fatalf("region %d: %d, not %d", me, b.Node(me).Len(), n)
		}
	}
}
