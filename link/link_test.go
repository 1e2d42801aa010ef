package link_test

import (
	"math"
	"slices"
	"strings"
	"testing"

	"entrepot/api"
	"entrepot/link"
)

// P12.1, P12.2: the chapter's example.
func TestExample(t *testing.T) {
	a, b := link.New(), link.New()
	x, _ := a.Send([]byte("x"), 0)
	y, _ := a.Send([]byte("y"), 0)
	off(t, b, y, api.Packet{})
	on(t, b, x, "x", packet(0, 1, ""))
	on(t, b, y, "y", packet(0, 2, ""))
}

func TestEndOfNothing(t *testing.T) {
	e := link.New()
	has(t, "new", e, state{})
	if string(e.Pack()) != "\x00\x00\x00" {
		t.Error("its code")
	}
	for _, now := range []int{math.MinInt, 0, math.MaxInt} {
		tick(t, e, now)
	}
	if e == link.New() {
		t.Error("New answers one end twice")
	}
}

// P12.1: numbers from 1 on, with the mark; tried once, due 2 later.
func TestSend(t *testing.T) {
	e := link.New()
	send(t, e, "one", 0, packet(1, 0, "one"))
	send(t, e, "", -5, packet(2, 0, ""))
	on(t, e, packet(1, 0, "came"), "came", packet(0, 1, ""))
	send(t, e, "three", 7, packet(3, 1, "three"))
	send(t, e, "one", math.MinInt, packet(4, 1, "one"))
	send(t, e, "late", math.MaxInt-2, packet(5, 1, "late"))
	send(t, e, "later", math.MaxInt-1, packet(6, 1, "later"))
	send(t, e, "last", math.MaxInt, packet(7, 1, "last"))
	has(t, "sent", e, state{7, 1, []line{{"one", 1, 2}, {"", 1, -3}, {"three", 1, 9}, {"one", 1, math.MinInt + 2}, {"late", 1, math.MaxInt}, {"later", 1, math.MaxInt}, {"last", 1, math.MaxInt}}})
}

// P12.1: ErrLong comes first; what is refused changes nothing.
func TestSendErrors(t *testing.T) {
	e := link.New()
	long, whole := strings.Repeat("x", 2049), strings.Repeat("y", 2048)
	refused(t, e, long, 0, api.ErrLong)
	has(t, "long", e, state{})
	want := state{}
	for i := range 64 {
		send(t, e, whole, i, packet(i+1, 0, whole))
		want.sent, want.open = i+1, append(want.open, line{whole, 1, i + 2})
	}
	for _, body := range []string{"", "x", whole} {
		refused(t, e, body, 0, api.ErrFull)
	}
	refused(t, e, long, 0, api.ErrLong)
	has(t, "full", e, want)
	// Room is there again for just so many as came.
	off(t, e, packet(0, 2, ""), api.Packet{})
	send(t, e, "a", 9, packet(65, 0, "a"))
	send(t, e, "b", 9, packet(66, 0, "b"))
	refused(t, e, "c", 9, api.ErrFull)
	want.sent, want.open = 66, append(want.open[2:], line{"a", 1, 11}, line{"b", 1, 11})
	has(t, "full again", e, want)
}

// P12.1: waits of 2, 4, 8, 16, and 16 ever after, from when it is tried on.
func TestTick(t *testing.T) {
	e := link.New()
	send(t, e, "a", 0, packet(1, 0, "a"))
	p := packet(1, 0, "a")
	tick(t, e, 1)
	tick(t, e, 2, p)
	has(t, "tried twice", e, state{1, 0, []line{{"a", 2, 6}}})
	tick(t, e, 2)
	tick(t, e, 5)
	// A tick that comes late puts off the next one.
	tick(t, e, 9, p)
	has(t, "tried thrice", e, state{1, 0, []line{{"a", 3, 17}}})
	tick(t, e, 16)
	tick(t, e, 17, p)
	tick(t, e, 32)
	tick(t, e, 33, p)
	for i := range 40 {
		tick(t, e, 48+16*i)
		tick(t, e, 49+16*i, p)
	}
	has(t, "tried 45 times", e, state{1, 0, []line{{"a", 45, 689}}})
}

// P12.1: by rising numbers, whatever was due first; with the mark as it is now.
func TestTickOfMany(t *testing.T) {
	e := of(t, state{9, 3, []line{{"f", 1, 5}, {"g", 1, 7}, {"h", 3, -2}, {"i", 2, 5}}})
	tick(t, e, -3)
	tick(t, e, 5, packet(6, 3, "f"), packet(8, 3, "h"), packet(9, 3, "i"))
	has(t, "three", e, state{9, 3, []line{{"f", 2, 9}, {"g", 1, 7}, {"h", 4, 21}, {"i", 3, 13}}})
	on(t, e, packet(4, 6, "d"), "d", packet(0, 4, ""))
	tick(t, e, 13, packet(7, 4, "g"), packet(9, 4, "i"))
	has(t, "two", e, state{9, 4, []line{{"g", 2, 17}, {"h", 4, 21}, {"i", 4, 29}}})
}

// P12.1: whenever it is.
func TestTickAtTheEdges(t *testing.T) {
	all := state{3, 0, []line{{"a", 1, math.MinInt}, {"b", 5, -1}, {"c", math.MaxInt, math.MaxInt}}}
	e := of(t, all)
	tick(t, e, math.MinInt, packet(1, 0, "a"))
	has(t, "least", e, state{3, 0, []line{{"a", 2, math.MinInt + 4}, {"b", 5, -1}, {"c", math.MaxInt, math.MaxInt}}})
	tick(t, e, math.MaxInt-1, packet(1, 0, "a"), packet(2, 0, "b"))
	has(t, "nearly", e, state{3, 0, []line{{"a", 3, math.MaxInt}, {"b", 6, math.MaxInt}, {"c", math.MaxInt, math.MaxInt}}})
	// What was tried that often can't be tried more often, but it is tried.
	for i := range 3 {
		tick(t, e, math.MaxInt, packet(1, 0, "a"), packet(2, 0, "b"), packet(3, 0, "c"))
		has(t, "greatest", e, state{3, 0, []line{{"a", 4 + i, math.MaxInt}, {"b", 7 + i, math.MaxInt}, {"c", math.MaxInt, math.MaxInt}}})
	}
	e = of(t, state{1, 0, []line{{"c", math.MaxInt - 1, 0}}})
	tick(t, e, 0, packet(1, 0, "c"))
	has(t, "so often", e, state{1, 0, []line{{"c", math.MaxInt, 16}}})
	tick(t, e, 16, packet(1, 0, "c"))
	has(t, "more often", e, state{1, 0, []line{{"c", math.MaxInt, 32}}})
}

// P12.1: no number comes behind the greatest one.
func TestSendBehindTheGreatestNumber(t *testing.T) {
	e := of(t, state{math.MaxInt - 1, 0, nil})
	send(t, e, "a", 0, packet(math.MaxInt, 0, "a"))
	refused(t, e, "b", 0, api.ErrFull)
	refused(t, e, strings.Repeat("b", 2049), 0, api.ErrLong)
	has(t, "behind", e, state{math.MaxInt, 0, []line{{"a", 1, 2}}})
	off(t, e, packet(0, most, ""), api.Packet{})
	has(t, "not come", e, state{math.MaxInt, 0, []line{{"a", 1, 2}}})
}

// P12.2: the mark and one, what came already, and what comes too early.
func TestOnBodies(t *testing.T) {
	e := link.New()
	on(t, e, packet(1, 0, "a"), "a", packet(0, 1, ""))
	off(t, e, packet(1, 0, "a"), packet(0, 1, ""))
	off(t, e, packet(3, 0, "c"), packet(0, 1, ""))
	on(t, e, packet(2, 0, ""), "", packet(0, 2, ""))
	off(t, e, packet(1, 0, "b"), packet(0, 2, ""))
	off(t, e, packet(most, most, ""), packet(0, 2, ""))
	on(t, e, packet(3, 0, "c"), "c", packet(0, 3, ""))
	has(t, "three", e, state{mark: 3})
	whole := strings.Repeat("z", 2048)
	on(t, e, packet(4, 0, whole), whole, packet(0, 4, ""))
	// Of a mark of 0 what is told is a packet of nothing.
	off(t, link.New(), packet(2, 0, "b"), api.Packet{})
}

// P12.2: marks at the greatest number, and behind it.
func TestOnAtTheGreatestNumber(t *testing.T) {
	e := of(t, state{mark: most - 1})
	on(t, e, packet(most, 0, "a"), "a", packet(0, most, ""))
	off(t, e, packet(most, 0, "a"), packet(0, most, ""))
	off(t, e, packet(most+1, 0, "b"), api.Packet{})
	has(t, "most", e, state{mark: most})
	for _, mark := range []int{math.MaxInt - 1, math.MaxInt} {
		e = of(t, state{mark: mark})
		off(t, e, packet(1, 0, "a"), packet(0, mark, ""))
		off(t, e, packet(0, 0, ""), api.Packet{})
		has(t, "greatest", e, state{mark: mark})
	}
}

// P12.2: bodies up to the mark that is told are forgotten, of those that were sent.
func TestOnMarks(t *testing.T) {
	e := link.New()
	var want state
	for i, s := range []string{"a", "b", "c", "d"} {
		send(t, e, s, 10, packet(i+1, 0, s))
		want.sent, want.open = i+1, append(want.open, line{s, 1, 12})
	}
	off(t, e, packet(0, 0, ""), api.Packet{})
	has(t, "none", e, want)
	off(t, e, packet(0, 2, ""), api.Packet{})
	want.open = want.open[2:]
	has(t, "two", e, want)
	// A mark that comes late is below what is known already.
	off(t, e, packet(0, 1, ""), api.Packet{})
	off(t, e, packet(0, 2, ""), api.Packet{})
	has(t, "late", e, want)
	tick(t, e, 12, packet(3, 0, "c"), packet(4, 0, "d"))
	want.open = []line{{"d", 2, 16}}
	// One beside a body counts as well, whether the body is the next one or not.
	off(t, e, packet(9, 3, "x"), api.Packet{})
	has(t, "beside one that is too early", e, want)
	on(t, e, packet(1, 4, "y"), "y", packet(0, 1, ""))
	want.open, want.mark = nil, 1
	has(t, "all", e, want)
	// What is sent behind it did not come, whatever was told ahead.
	off(t, e, packet(0, most, ""), api.Packet{})
	off(t, e, packet(1, 7, "y"), packet(0, 1, ""))
	has(t, "those that were sent", e, want)
	send(t, e, "e", 20, packet(5, 1, "e"))
	want.sent, want.open = 5, []line{{"e", 1, 22}}
	has(t, "sent behind", e, want)
	off(t, e, packet(0, 4, ""), api.Packet{})
	has(t, "sent behind, late", e, want)
	off(t, e, packet(0, 5, ""), api.Packet{})
	has(t, "at last", e, state{sent: 5, mark: 1})
}

// P12.2: a packet that may not be changes nothing, not even by its mark.
func TestOnOfWhatMayNotBe(t *testing.T) {
	want := state{3, 4, []line{{"b", 1, 2}, {"c", 1, 2}}}
	e := of(t, want)
	for _, p := range mayNots() {
		off(t, e, p, api.Packet{})
	}
	has(t, "behind", e, want)
	// Each with a mark, or a number, that would do by itself.
	for _, p := range []api.Packet{packet(-1, 3, ""), packet(most+1, 3, ""), packet(5, -1, "x"), packet(5, most+1, "x"), packet(5, 3, strings.Repeat("x", 2049)), packet(0, 3, "x")} {
		off(t, e, p, api.Packet{})
		has(t, "with one thing right", e, want)
	}
}

// R3: bodies are the caller's, ahead and behind.
func TestBodiesAreNotShared(t *testing.T) {
	e := link.New()
	b := []byte("body and more")
	room := slices.Clone(b)
	p, _ := e.Send(b[:4], 0)
	if !slices.Equal(b, room) || !slices.Equal(p.Body, room[:4]) {
		t.Error(b, p)
	}
	clear(b)
	clear(p.Body[:cap(p.Body)])
	want := state{1, 0, []line{{"body", 1, 2}}}
	has(t, "sent", e, want)
	for i := range 2 {
		l := e.Tick(100 * (i + 1))
		if len(l) != 1 || string(l[0].Body) != "body" {
			t.Fatal(l)
		}
		clear(l[0].Body[:cap(l[0].Body)])
		clear(l[:cap(l)])
	}
	has(t, "ticked", e, state{1, 0, []line{{"body", 3, 208}}})

	b = []byte("came and more")
	room = slices.Clone(b)
	came, is, _ := e.On(api.Packet{Seq: 1, Body: b[:4]})
	if !is || !slices.Equal(b, room) {
		t.Error(b)
	}
	clear(b)
	if string(came) != "came" {
		t.Error(came)
	}
	_ = append(came, "more"...)
	if !slices.Equal(b, make([]byte, len(b))) {
		t.Error(b)
	}
}

// P12.3
func TestNilEnd(t *testing.T) {
	var e *link.End
	refused(t, e, "", 0, api.ErrClosed)
	refused(t, e, strings.Repeat("x", 2049), 0, api.ErrClosed)
	tick(t, e, math.MaxInt)
	for _, p := range []api.Packet{{}, packet(1, 0, "a"), packet(2, 1, "a"), packet(-1, 0, "")} {
		off(t, e, p, api.Packet{})
	}
	if e.Open() != 0 || e.Mark() != 0 || e.Sent() != 0 || e.Pack() != nil {
		t.Error("it has something")
	}
}
