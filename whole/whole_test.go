package whole

// whole_test.go: the ten examples of the whole, which stand at the end of DOC.md.

import (
	"bytes"
	"slices"
	"testing"

	"entrepot/api"
	"entrepot/asks"
	"entrepot/audit"
	"entrepot/bins"
	"entrepot/boxes"
	"entrepot/goods"
	"entrepot/items"
	"entrepot/lists"
	"entrepot/world"
)

// sectors are so many that an input goes into few of them.
const sectors = 128

// house is a world of three regions: client 0's and 3's home is region 0, and so on.
type house struct {
	*world.World
	t *testing.T
}

func build(t *testing.T) house {
	t.Helper()
	w, e := world.New(api.World{Regions: 3, Sectors: sectors, Clients: 6})
	if e != api.OK {
		t.Fatal(e)
	}
	return house{w, t}
}

func (h house) does(kind, region, n int) {
	h.t.Helper()
	if e := h.Do(api.Act{Kind: kind, A: region, N: n, Torn: -1}); e != api.OK {
		h.t.Fatal(kind, region, e)
	}
}

// tells a region a request.
func (h house) tells(region int, a api.Ask) {
	h.t.Helper()
	if e := h.Do(api.Act{Kind: api.ActAsk, A: region, Ask: a}); e != api.OK {
		h.t.Fatalf("%+v: %d", a, e)
	}
}

// rest has rounds till all is quiet, and looks whether all is as it may be.
func (h house) rest() {
	h.t.Helper()
	w := h.World
	for rounds := audit.Bound(3, 1); rounds > 0 && !audit.Quiet(w); rounds-- {
		h.does(api.ActRound, 0, 0)
	}
	if !audit.Quiet(w) || !audit.Sound(w) || !audit.Kept(w) || !audit.Flows(w) || !audit.Parcels(w) || !audit.Held(w) || w.Unlike() {
		h.t.Fatal("no rest")
	}
}

func (h house) answered(a api.Ask, e api.Errno) {
	h.t.Helper()
	if answer, is := h.Answer(a.Client, a.Number); !is || answer.Code != e {
		h.t.Fatalf("%+v: %v, %+v, not %d", a, is, answer, e)
	}
}

// asks tells a request, has all come to rest, and looks at its answer.
func (h house) asks(region int, a api.Ask, e api.Errno) {
	h.t.Helper()
	h.tells(region, a)
	h.rest()
	h.answered(a, e)
}

// stands looks at an order's state, and what each region holds for it.
func (h house) stands(order, state int, held ...string) {
	h.t.Helper()
	s, is := h.Node(order % 64 % 3).Desk().Saga(order)
	if !is || s.State != state {
		h.t.Fatal(order, is, s)
	}
	for region, l := range held {
		if x := h.Node(region).Region().Hold(order); !slices.Equal(x.Held, lists.Of(l)) {
			h.t.Fatal(order, region, x)
		}
	}
}

// filled has 4 of a in region 0, and 3 in region 1.
func filled(t *testing.T) house {
	h := build(t)
	h.asks(0, asks.Receive(0, 1, 0, "a 4"), api.OK)
	h.asks(0, asks.Receive(0, 2, 1, "a 3"), api.OK)
	return h
}

// Example 1; P1, P2.
func TestHeldInBoth(t *testing.T) {
	h := filled(t)
	h.asks(0, asks.Order(0, 3, "a 6", 1), api.OK)
	h.stands(3*64, api.SagaHeld, "a 4", "a 2", "")
}

// Example 2; P4.
func TestWaitsAndIsTriedAgain(t *testing.T) {
	h := filled(t)
	h.asks(0, asks.Order(0, 3, "a 9", 1), api.ErrWait)
	h.stands(3*64, api.SagaWaiting, "", "", "")
	h.asks(0, asks.Receive(0, 4, 2, "a 1"), api.OK)
	h.stands(3*64, api.SagaWaiting, "", "", "")
	h.asks(0, asks.Receive(0, 5, 2, "a 2"), api.OK)
	h.stands(3*64, api.SagaHeld, "a 4", "a 3", "a 2")
}

// Example 3; P4.
func TestMayNotWait(t *testing.T) {
	h := filled(t)
	h.asks(0, asks.Order(0, 3, "a 9", 0), api.ErrLess)
	h.stands(3*64, api.SagaRefused, "", "", "")
}

// Example 4; P3, P4.
func TestItsRegionIsDown(t *testing.T) {
	h := filled(t)
	h.does(api.ActCrash, 0, 0)
	a := asks.Order(0, 3, "a 6", 1)
	h.tells(1, a)
	for range 30 {
		h.does(api.ActRound, 0, 0)
	}
	if _, is := h.Answer(0, 3); is {
		t.Fatal("answered")
	}
	h.does(api.ActStart, 0, 0)
	h.rest()
	h.answered(a, api.OK)
	h.stands(3*64, api.SagaHeld, "a 4", "a 2", "")
}

// Example 5; P5.
func TestAskedAgainElsewhere(t *testing.T) {
	h := filled(t)
	a := asks.Order(0, 3, "a 6", 1)
	for _, region := range []int{0, 2, 1, 0} {
		h.asks(region, a, api.OK)
		h.asks(region, asks.Receive(0, 1, 0, "a 4"), api.OK)
		h.stands(3*64, api.SagaHeld, "a 4", "a 2", "")
	}
	if x := goods.Total(audit.Shelves(h.World), "a"); x.Flow.Received != 7 || x.Level.Held != 6 || x.Level.Free != 1 {
		t.Error(x)
	}
}

// Example 6; P5.
func TestTheSameNumberTwice(t *testing.T) {
	h := filled(t)
	h.asks(0, asks.Order(0, 3, "a 6", 1), api.OK)
	sent, e := h.Node(0).Ask(asks.Code(asks.Order(0, 3, "a 5", 1)))
	if want := (api.Answer{Client: 0, Number: 3, Code: api.ErrClash}); e != api.OK || len(sent) != 1 || !sent[0].Client || sent[0].Answer != want {
		t.Error(sent, e)
	}
	h.rest()
	h.stands(3*64, api.SagaHeld, "a 4", "a 2", "")
}

// Example 7; P2.
func TestCountedBelowWhatIsHeld(t *testing.T) {
	h := filled(t)
	h.asks(0, asks.Order(0, 3, "a 3", 1), api.OK)
	h.asks(0, asks.Count(0, 4, 0, "a", 2), api.ErrHeld)
	if l := h.Node(0).Region().Shelf().Level("a"); l != (api.Level{Free: 1, Held: 3}) {
		t.Error(l)
	}
	h.asks(0, asks.Count(0, 5, 0, "a", 3), api.OK)
}

// crashes are those that may follow: all that was unsure is kept, none of it, or of one sector a part.
func crashes() []api.Act {
	var all []int
	for sector := range sectors {
		all = append(all, sector)
	}
	l := []api.Act{{Kind: api.ActCrash, Torn: -1}, {Kind: api.ActCrash, Keep: all, Torn: -1}}
	for torn := range sectors {
		for _, part := range []int{1, 9, 33, 63} {
			l = append(l, api.Act{Kind: api.ActCrash, Torn: torn, Bytes: part})
		}
	}
	return l
}

// Example 8; P3: the power goes behind each call on the device.
func TestCrashInTheMiddleOfAWrite(t *testing.T) {
	a := asks.Count(0, 3, 0, "a", 9)
	h := filled(t)
	without := h.Node(0).State()
	h.tells(0, a)
	with := h.Node(0).State()
	seen := map[bool]int{}
	for calls := range 5 {
		for i, crash := range crashes() {
			h := filled(t)
			h.does(api.ActStop, 0, calls)
			e := h.Do(api.Act{Kind: api.ActAsk, A: 0, Ask: a})
			if h.Do(crash) != api.OK {
				t.Fatal(crash)
			}
			h.does(api.ActStart, 0, 0)
			state := h.Node(0).State()
			is := bytes.Equal(state, with)
			if !is && (!bytes.Equal(state, without) || e == api.OK) {
				t.Fatal(calls, crash, e)
			}
			seen[is]++
			if i < 9 {
				h.asks(1, a, api.OK)
			}
		}
	}
	if seen[true] == 0 || seen[false] == 0 {
		t.Error(seen)
	}
}

// Example 9; P2.
func TestOnTheirWay(t *testing.T) {
	h := filled(t)
	h.tells(0, asks.Move(0, 3, 0, 2, "a 3"))
	for way := range 2 {
		x := goods.Total(audit.Shelves(h.World), "a")
		if x.Way != 3-3*way || x.Level.Free != 4+3*way || !goods.Kept(x) {
			t.Fatal(x)
		}
		h.rest()
	}
	if n := h.Node(2).Region().Shelf().Level("a").Free; n != 3 {
		t.Error(n)
	}
	h.answered(asks.Move(0, 3, 0, 2, "a 3"), api.OK)
}

// Example 10; P2, P28.6: what is picked is taken from the floor, what is shipped is in boxes.
func TestShippedOnce(t *testing.T) {
	h := filled(t)
	floor, e := bins.New([]api.Bin{{Number: 1, Room: 3}, {Number: 2, Zone: 1, Room: 3}})
	if e != api.OK {
		t.Fatal(e)
	}
	floor.Put("a", 4)
	order := 3 * 64
	h.asks(0, asks.Order(0, 3, "a 6", 1), api.OK)
	h.asks(0, asks.About(api.AskPick, 0, 4, order), api.OK)
	picked := h.Node(0).Region().Hold(order).Picked
	for good, n := range items.All(picked) {
		if l, e := floor.Take(good, n); e != api.OK || floor.Way(l) != 2+api.ZoneWay {
			t.Fatal(l, e)
		}
	}
	h.asks(0, asks.About(api.AskShip, 0, 5, order), api.OK)
	h.asks(0, asks.About(api.AskShip, 0, 6, order), api.ErrState)
	h.stands(order, api.SagaShipped, "", "", "")
	shipped := h.Node(0).Region().Hold(order).Shipped
	l := h.Node(0).Region().Shelf().Level("a")
	if !slices.Equal(shipped, lists.Of("a 4")) || floor.Of("a") != l.Free+l.Held {
		t.Fatal(shipped, floor.Of("a"), l)
	}
	all, e := boxes.Pack(shipped, []api.Size{{Good: "a", Volume: 2, Weight: 1}}, api.Box{Volume: 6, Weight: 9})
	text, code := boxes.List(all)
	if e != api.OK || code != api.OK || text != "1: a=3\n2: a=1\n" {
		t.Fatal(all, e, text, code)
	}
	for i := range all {
		label, e := boxes.Label(order, 0, i+1)
		if o, r, b, code := boxes.Read(label); e != api.OK || code != api.OK || o != order || r != 0 || b != i+1 {
			t.Error(label, e, code)
		}
	}
	p, _ := h.Node(0).Desk().Parcel(order)
	if !slices.Equal(p.Shipped, lists.Of("a 6")) {
		t.Error(p)
	}
}

// P6.
func TestTheSameWorld(t *testing.T) {
	h, again := filled(t), filled(t)
	for region := range 3 {
		if !bytes.Equal(h.Node(region).State(), again.Node(region).State()) {
			t.Error(region)
		}
	}
}
