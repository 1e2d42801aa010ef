package world_test

import (
	"math"
	"slices"
	"testing"

	"entrepot/api"
	"entrepot/ask"
	"entrepot/asks"
	"entrepot/world"
)

// P24.1: which worlds there may be.
func TestNew(t *testing.T) {
	for _, regions := range []int{math.MinInt, -1, 0, 1, 2, 8, 9, math.MaxInt} {
		for _, sectors := range []int{math.MinInt, -1, 0, 1, 3, 4, 5, 1 << 14, 1<<14 + 1, math.MaxInt} {
			for _, clients := range []int{math.MinInt, -1, 0, 1, 2, 64, 65, math.MaxInt} {
				w, e := world.New(api.World{Regions: regions, Sectors: sectors, Clients: clients})
				may := regions >= 1 && regions <= 8 && sectors >= 4 && sectors <= 1<<14 && clients >= 1 && clients <= 64
				switch {
				case may && (e != api.OK || w.Regions() != regions || w.Up() != regions || w.Way() != 0):
					t.Error(regions, sectors, clients, e)
				case !may && (e != api.ErrArg || w != nil):
					t.Error(regions, sectors, clients, e)
				}
			}
		}
	}
}

// P24.1: all nodes, each a region of its own, on devices of so many sectors; nothing happened yet.
func TestNewWorld(t *testing.T) {
	b := begin(t, 3, 12, 5)
	b.counts(0, 3)
	b.told(0, 0, 0)
	if l := slices.Collect(b.Answers()); l != nil || b.Unlike() || slices.Collect(b.Asked()) != nil {
		t.Error(l)
	}
	b.notAnswered(0, 1)
	seen := map[any]bool{}
	for i := range 3 {
		if b.Node(i) == nil || b.Off(i) || seen[b.Node(i)] || seen[b.Node(i).Desk()] || b.Node(i) != b.Node(i) {
			t.Error(i)
		}
		seen[b.Node(i)], seen[b.Node(i).Desk()] = true, true
	}
	for _, i := range []int{math.MinInt, -1, 3, 8, math.MaxInt} {
		if b.Node(i) != nil || !b.Off(i) {
			t.Error(i)
		}
	}
}

// P24.3
func TestNilWorld(t *testing.T) {
	var w *world.World
	for kind := -1; kind < 14; kind++ {
		for _, region := range []int{-1, 0, 1} {
			if e := w.Do(api.Act{Kind: kind, A: region}); e != api.ErrClosed {
				t.Error(kind, e)
			}
		}
	}
	a, is := w.Answer(0, 1)
	if w.Node(0) != nil || w.Regions() != 0 || is || a != (api.Answer{}) || w.Unlike() || w.Way() != 0 || w.Up() != 0 || !w.Off(0) || !w.Off(-1) {
		t.Error("not nothing")
	}
	if slices.Collect(w.Answers()) != nil || slices.Collect(w.Asked()) != nil {
		t.Error("not nothing")
	}
}

// Example 1.
func TestTwoRegions(t *testing.T) {
	b := begin(t, 2, 64, 2)
	b.does(tells(0, asks.Receive(1, 1, 0, "a 5")), api.OK)
	b.notAnswered(1, 1)
	b.counts(1, 2)
	b.does(round(), api.OK)
	b.answered(1, 1, api.OK)
	b.counts(0, 2)
}

// P24.1: answers are those of the world's clients alone; others' requests are done, and asked.
func TestOthersClients(t *testing.T) {
	b := begin(t, 1, 64, 2)
	for client := range 4 {
		b.does(tells(0, asks.Receive(client, 1, 0, "a 5")), api.OK)
	}
	b.answered(0, 1, api.OK)
	b.answered(1, 1, api.OK)
	b.notAnswered(2, 1)
	b.notAnswered(3, 1)
	if n := b.Node(0).Region().Shelf().Level("a").Free; n != 20 || len(slices.Collect(b.Asked())) != 4 {
		t.Error(n)
	}
	for _, client := range []int{math.MinInt, -1, 2, 63, 64, math.MaxInt} {
		b.notAnswered(client, 1)
	}
	for _, number := range []int{math.MinInt, -1, 0, 2, 1 << 32, math.MaxInt} {
		b.notAnswered(0, number)
	}
}

// P24.1: answers by clients, then numbers, whichever came first; each has its own.
func TestAnswersInOrder(t *testing.T) {
	b := begin(t, 1, 256, 64)
	b.does(tells(0, asks.Receive(63, 7, 0, "a 5")), api.OK)
	b.does(tells(0, asks.Count(5, 300, 0, "a", 9)), api.OK)
	b.does(tells(0, asks.Count(5, 2, 0, "b", 9)), api.OK)
	b.does(tells(0, asks.Order(0, 9, "c 1", 1)), api.OK)
	b.does(tells(0, asks.Order(0, 1<<32, "c 1", 0)), api.OK)
	want := []api.Answer{
		{Number: 9, Code: api.ErrWait}, {Number: 1 << 32, Code: api.ErrLess},
		{Client: 5, Number: 2, Code: api.ErrGood}, {Client: 5, Number: 300, N: 4}, {Client: 63, Number: 7},
	}
	l := slices.Collect(b.Answers())
	if !slices.Equal(l, want) {
		t.Errorf("%+v, not %+v", l, want)
	}
	for _, a := range want {
		if got, is := b.Answer(a.Client, a.Number); !is || got != a {
			t.Error(got, is)
		}
	}
}

// P24.1: the first answer that is not passing is the answer, whatever is told behind it; one that is passing, till such a one comes.
func TestPassingAnswers(t *testing.T) {
	b := begin(t, 2, 256, 4)
	// The order is tried in the other region, and open till that answers.
	b.does(tells(0, asks.Order(2, 1, "a 5", 0)), api.OK)
	b.does(tells(0, asks.Receive(2, 1, 0, "a 5")), api.OK)
	b.answered(2, 1, api.ErrClash)
	b.does(tells(0, asks.Receive(2, 1, 0, "a 6")), api.OK)
	b.answered(2, 1, api.ErrClash)
	b.does(round(), api.OK)
	b.answered(2, 1, api.ErrLess)
	b.does(tells(0, asks.Receive(2, 1, 0, "a 5")), api.OK)
	b.answered(2, 1, api.ErrLess)
	b.does(tells(0, asks.Order(2, 1, "a 5", 0)), api.OK)
	b.answered(2, 1, api.ErrLess)
	b.does(tells(0, asks.Low(2, 9, 5)), api.OK)
	b.does(tells(0, asks.Order(2, 1, "a 5", 0)), api.OK)
	b.answered(2, 1, api.ErrLess)
	b.does(tells(0, asks.Order(2, 4, "a 5", 0)), api.OK)
	b.answered(2, 4, api.ErrStale)
	for n := 10; n < 140; n++ {
		b.quick(tells(0, asks.About(api.AskCancel, 2, n, 64)))
	}
	b.answered(2, 136, api.ErrNone)
	b.answered(2, 137, api.ErrFull)
	b.answered(2, 139, api.ErrFull)
	if b.Unlike() {
		t.Error("unlike")
	}
	b.look()
}

// P24.1: which requests a node took: those that were told, and not refused; again, if they were told again.
func TestAsked(t *testing.T) {
	b := begin(t, 2, 16, 4)
	first, second := asks.Receive(0, 1, 0, "a 5"), asks.Order(1, 1, "a 7", 1)
	b.does(tells(0, first), api.OK)
	b.does(bytesTo(1, asks.Code(second)), api.OK)
	b.does(tells(1, first), api.OK)
	b.does(tells(0, asks.Receive(0, 0, 0, "a 5")), api.ErrArg)
	b.does(bytesTo(0, []byte("junk")), api.ErrCode)
	b.does(tells(2, second), api.ErrArg)
	want := []api.Ask{first, second, first}
	same := func() {
		t.Helper()
		if l := slices.Collect(b.Asked()); !slices.EqualFunc(l, want, ask.Same) {
			t.Fatalf("%+v, not %+v", l, want)
		}
	}
	same()
	// What a device without power may have taken was asked too.
	third := asks.Receive(0, 2, 0, "b 5")
	b.does(stop(0, 1), api.OK)
	b.does(tells(0, third), api.ErrOff)
	b.does(bytesTo(0, asks.Code(third)), api.ErrOff)
	want = append(want, third, third)
	same()
	b.does(crash(0), api.OK)
	b.does(tells(0, third), api.ErrNone)
	b.does(bytesTo(0, asks.Code(third)), api.ErrNone)
	b.does(start(0), api.OK)
	same()
	// A log without room takes nothing.
	for n := 3; n < 40; n++ {
		a := asks.Order(0, n, "a 5, b 7, c 9, d 11", 0)
		if b.act(tells(0, a)) == api.ErrFull {
			same()
			return
		}
		want = append(want, a)
	}
	t.Error("there was always room")
}

// R5, R3: iterators begin anew, may be stopped, are as the world is when they are ranged over, and hand out what is new.
func TestIterators(t *testing.T) {
	b := begin(t, 1, 256, 8)
	answers, asked := b.Answers(), b.Asked()
	for n := 1; n <= 3; n++ {
		b.does(tells(0, asks.Receive(n, n, 0, "a 5")), api.OK)
		for range 2 {
			if len(slices.Collect(answers)) != n || len(slices.Collect(asked)) != n {
				t.Error(n)
			}
		}
	}
	for a := range answers {
		if a.Client != 1 {
			t.Error(a)
		}
		break
	}
	for a := range asked {
		if a.Client != 1 {
			t.Error(a)
		}
		a.Items[0].N = 99
		break
	}
	for a := range asked {
		if a.Items[0].N != 5 {
			t.Error(a)
		}
	}
	seen := 0
	for range asked {
		if seen++; seen == 2 {
			break
		}
	}
	if seen != 2 {
		t.Error(seen)
	}
}

// R3: what is handed in is not changed, and not kept.
func TestActsAreNotKept(t *testing.T) {
	b := begin(t, 2, 64, 8)
	a := asks.Receive(1, 1, 0, "a 5, b 1")
	b.does(tells(0, a), api.OK)
	a.Items[0] = api.Item{Good: "z", N: 1}
	body := asks.Code(asks.Receive(1, 2, 0, "a 5"))
	b.does(bytesTo(0, body), api.OK)
	clear(body)
	keep := []int{5, 2, 3}
	b.does(stop(1, 1), api.OK)
	b.does(tick(1), api.ErrOff)
	b.does(crash(1, keep...), api.OK)
	if !slices.Equal(keep, []int{5, 2, 3}) {
		t.Error(keep)
	}
	b.does(start(1), api.OK)
	b.told(2, 1)
	b.does(round(), api.OK)
	l := slices.Collect(b.Asked())
	if len(l) != 2 || l[0].Items[0].Good != "a" || l[1].Items[0].N != 5 {
		t.Error(l)
	}
	if f := b.Node(0).Region().Shelf().Flow("a"); f.Received != 10 {
		t.Error(f)
	}
}
