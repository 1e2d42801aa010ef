package stock_test

import (
	"bytes"
	"math"
	"slices"
	"testing"

	"entrepot/api"
	"entrepot/stock"
)

// P7.1: what each kind does, reckoned by hand.
func TestDoEachKind(t *testing.T) {
	for _, c := range []struct {
		kind int
		more []int
	}{
		{api.DoReceive, []int{free, 7, received, 7}},
		{api.DoHold, []int{free, -7, held, 7}},
		{api.DoRelease, []int{held, -7, free, 7}},
		{api.DoPick, []int{held, -7, picked, 7}},
		{api.DoUnpick, []int{picked, -7, held, 7}},
		{api.DoShip, []int{picked, -7, shipped, 7}},
		{api.DoReturn, []int{aside, 7, returned, 7}},
		{api.DoRestock, []int{aside, -7, free, 7}},
		{api.DoScrap, []int{aside, -7, scrapped, 7}},
		{api.DoSend, []int{free, -7, sent, 7}},
		{api.DoCome, []int{free, 7, came, 7}},
	} {
		s := unpacked(t, some("a"), some("b"), some("c"))
		if e := s.Do(c.kind, list("a 7, c 7")); e != api.OK {
			t.Errorf("kind %d: %d", c.kind, e)
		}
		has(t, "kind", s, some("a").with(c.more...), some("b"), some("c").with(c.more...))
	}
}

// P7.1: all that there is may be taken, one more may not.
func TestDoTakesWhatThereIs(t *testing.T) {
	for _, kind := range kinds() {
		from := table(kind)[0]
		if from < 0 {
			continue
		}
		s, n := unpacked(t, some("a"), some("b")), some("a").n[from]
		refused(t, s, kind, item("b", n+1), api.ErrLess)
		refused(t, s, kind, append(item("a", n), item("b", n+1)...), api.ErrLess)
		refused(t, s, kind, append(item("a", n+1), item("b", n)...), api.ErrLess)
		refused(t, s, kind, item("b", most), api.ErrLess)
		if e := s.Do(kind, append(item("a", n), item("b", n)...)); e != api.OK {
			t.Errorf("kind %d: all of it: %d", kind, e)
		}
		refused(t, s, kind, item("a", 1), api.ErrLess)
	}
}

// P7.1: those that ever came are known, from nothing on.
func TestDoMakesGoodsKnown(t *testing.T) {
	for _, kind := range kinds() {
		s, p := stock.New(), table(kind)
		if p[0] >= 0 {
			refused(t, s, kind, list("a 1"), api.ErrGood)
			continue
		}
		if e := s.Do(kind, list("a 1, c 3")); e != api.OK {
			t.Errorf("kind %d: %d", kind, e)
		}
		if e := s.Do(kind, list("b 2, c 4")); e != api.OK {
			t.Errorf("kind %d: %d", kind, e)
		}
		n := func(good string, n int) row { return row{good: good}.with(p[1], n, p[2], n) }
		has(t, "known", s, n("a", 1), n("b", 2), n("c", 7))
	}
}

// P7.1: a good of which there is nothing any more is known still.
func TestDoForgetsNoGood(t *testing.T) {
	s := unpacked(t, plain("a", 5))
	if e := s.Do(api.DoSend, list("a 5")); e != api.OK {
		t.Error(e)
	}
	has(t, "sent", s, row{good: "a"}.with(received, 5, sent, 5))
	refused(t, s, api.DoHold, list("a 1"), api.ErrLess)
	if n, e := s.Count("a", 3); n != 3 || e != api.OK {
		t.Error(n, e)
	}
}

// P7.1: of nothing nothing is done.
func TestDoOfNothing(t *testing.T) {
	for _, kind := range kinds() {
		for _, l := range [][]api.Item{nil, {}} {
			s := unpacked(t, some("a"))
			if e := s.Do(kind, l); e != api.OK {
				t.Errorf("kind %d: %d", kind, e)
			}
			has(t, "nothing", s, some("a"))
			if s := stock.New(); s.Do(kind, l) != api.OK || len(slices.Collect(s.Goods())) != 0 {
				t.Errorf("kind %d of a new stock", kind)
			}
		}
	}
}

// refused looks whether a stock refuses what is to be done, and is as it was.
func refused(t *testing.T, s *stock.Stock, kind int, l []api.Item, want api.Errno) {
	t.Helper()
	before := s.Pack()
	if e := s.Do(kind, l); e != want {
		t.Errorf("Do(%d, %v) = %d, not %d", kind, l, e, want)
	}
	if !bytes.Equal(s.Pack(), before) {
		t.Errorf("Do(%d, %v) was refused and changed something", kind, l)
	}
}

// P7.1, R2
func TestDoRefusesKindsAndLists(t *testing.T) {
	s := unpacked(t, some("a"), some("b"))
	wrong := [][]api.Item{list("a 0"), list("a -1"), item("a", most+1), item("a", math.MaxInt), item("a", math.MinInt), list("b 1, a 1"), list("a 1, a 1"), list("A 1"), item("", 1), item("abcdefghijklmnopq", 1), list("a 1, ä 1"), goods(0, 17, 1)}
	for _, kind := range []int{0, 12, -1, 100, math.MinInt, math.MaxInt} {
		refused(t, s, kind, list("a 1"), api.ErrArg)
		refused(t, s, kind, nil, api.ErrArg)
		for _, l := range wrong {
			refused(t, s, kind, l, api.ErrArg)
		}
	}
	for _, kind := range kinds() {
		for _, l := range wrong {
			refused(t, s, kind, l, api.ErrItems)
			refused(t, full(t), kind, l, api.ErrItems)
		}
	}
}

// P7.1, R2: of several errors, of whichever goods, the one that the chapter names first.
func TestDoErrorsInTheirOrder(t *testing.T) {
	at := row{"b", [numbers]int{free: most, received: most}}
	for _, kind := range kinds() {
		p := table(kind)
		if p[0] < 0 {
			continue
		}
		s := unpacked(t, some("b"), some("c"))
		for _, l := range []string{"a 1", "a 1, b 1", "b 1, d 1", "a 1, b 1000", "b 1000, d 1", "b 1000, c 1, d 1000", "a 1, b 1000, d 1"} {
			refused(t, s, kind, list(l), api.ErrGood)
		}
	}
	for _, kind := range []int{api.DoReceive, api.DoCome, api.DoReturn} {
		s := unpacked(t, at, some("c"))
		for _, l := range []string{"b 1", "a 1, b 1", "b 1, c 1", "b 1, d 1"} {
			refused(t, s, kind, list(l), api.ErrOver)
		}
	}
	// Less of one, and too much flow of another one.
	for kind, flow := range map[int]int{api.DoShip: shipped, api.DoScrap: scrapped, api.DoSend: sent} {
		r := row{"b", [numbers]int{free: 9, picked: 9, aside: 9, received: mostFlow, counted: 27}}.with(flow, mostFlow)
		for _, less := range []string{"a", "c"} {
			rows := []row{r, plain(less, 0).with(came, 1, sent, 1)}
			slices.SortFunc(rows, func(a, b row) int { return int(a.good[0]) - int(b.good[0]) })
			l := append(item(rows[0].good, 1), item(rows[1].good, 1)...)
			refused(t, unpacked(t, rows...), kind, l, api.ErrLess)
			refused(t, unpacked(t, rows...), kind, item("b", 10), api.ErrLess)
			refused(t, unpacked(t, rows...), kind, item("b", 1), api.ErrOver)
			refused(t, unpacked(t, rows...), kind, append(l, item("d", 1)...), api.ErrGood)
		}
	}
}

// P7.1: a level's sum is a count.
func TestDoKeepsTheSumACount(t *testing.T) {
	for place := range aside + 1 {
		for _, kind := range []int{api.DoReceive, api.DoCome, api.DoReturn} {
			p := table(kind)
			r := plain("a", 0).with(place, most-3, received, most-3)
			s := unpacked(t, r, some("b"))
			refused(t, s, kind, list("a 4"), api.ErrOver)
			refused(t, s, kind, list("a 4, b 1"), api.ErrOver)
			refused(t, s, kind, item("a", most), api.ErrOver)
			if e := s.Do(kind, list("a 3, b 1")); e != api.OK {
				t.Errorf("kind %d: %d", kind, e)
			}
			has(t, "sum", s, r.with(p[1], 3, p[2], 3), some("b").with(p[1], 1, p[2], 1))
			refused(t, s, kind, list("a 1"), api.ErrOver)
		}
		// What stays in the level may be moved about there.
		r := plain("a", 0).with(place, most, received, most)
		for _, kind := range kinds() {
			if p := table(kind); p[0] == place && p[1] >= 0 {
				s := unpacked(t, r)
				if e := s.Do(kind, item("a", most)); e != api.OK {
					t.Errorf("kind %d: %d", kind, e)
				}
				has(t, "moved", s, r.with(p[0], -most, p[1], most))
			}
		}
	}
}

// P7.1: a flow has MaxFlow, and no more.
func TestDoKeepsFlowsWithinBounds(t *testing.T) {
	for _, kind := range kinds() {
		p := table(kind)
		if p[2] < 0 {
			continue
		}
		// So much came, or went, and the same elsewhere the other way, but for what lies here.
		r := row{good: "a"}.with(free, 50, picked, 50, aside, 50, received, 150).with(p[2], mostFlow-3)
		switch {
		case kind == api.DoReceive:
			r = r.with(p[2], -150, sent, mostFlow-3, came, 150)
		case p[0] < 0:
			r = r.with(sent, mostFlow-3)
		default:
			r = r.with(came, mostFlow-3)
		}
		s := unpacked(t, r, some("b"))
		refused(t, s, kind, list("a 4"), api.ErrOver)
		refused(t, s, kind, list("a 4, b 1"), api.ErrOver)
		if e := s.Do(kind, list("a 3")); e != api.OK {
			t.Errorf("kind %d: %d", kind, e)
		}
		refused(t, s, kind, list("a 1, b 1"), api.ErrOver)
		if n := s.Flow("a"); n == r.flow() {
			t.Error("the flow did not change")
		}
	}
}

// P7.1: 64 goods, and no more.
func TestDoOfManyGoods(t *testing.T) {
	s := full(t)
	for _, kind := range []int{api.DoReceive, api.DoCome, api.DoReturn} {
		refused(t, s, kind, list("g164 1"), api.ErrFull)
		refused(t, s, kind, list("a 1"), api.ErrFull)
		refused(t, s, kind, list("a 1, g100 1"), api.ErrFull)
		refused(t, s, kind, list("g100 1, g164 1"), api.ErrFull)
		refused(t, s, kind, append(item("g100", most), item("z", 1)...), api.ErrOver)
		if e := s.Do(kind, goods(48, 16, 1)); e != api.OK {
			t.Errorf("kind %d, of known goods: %d", kind, e)
		}
	}
	refused(t, s, api.DoHold, list("z 1"), api.ErrGood)
	if e := s.Do(api.DoSend, list("g100 5")); e != api.OK {
		t.Error(e)
	}
	refused(t, s, api.DoReceive, list("z 1"), api.ErrFull)

	s = stock.New()
	for i := range 3 {
		s.Do(api.DoReceive, goods(16*i, 16, 5))
	}
	s.Do(api.DoReceive, goods(48, 15, 5))
	refused(t, s, api.DoReceive, list("y 1, z 1"), api.ErrFull)
	if e := s.Do(api.DoReceive, list("g100 1, z 1")); e != api.OK || len(slices.Collect(s.Goods())) != 64 {
		t.Error("the last one:", e)
	}
	refused(t, s, api.DoReceive, list("y 1"), api.ErrFull)
}

// P7.1
func TestCount(t *testing.T) {
	for _, c := range []struct{ n, more int }{{30, 0}, {31, 1}, {29, -1}, {20, -10}, {1000, 970}, {most - 70, most - 100}} {
		s := unpacked(t, some("a"), some("b"))
		if more, e := s.Count("a", c.n); more != c.more || e != api.OK {
			t.Errorf("Count(%d) = %d, %d, not %d", c.n, more, e, c.more)
		}
		has(t, "counted", s, some("a").with(free, c.more, counted, c.more), some("b"))
		if more, e := s.Count("a", c.n); more != 0 || e != api.OK {
			t.Errorf("Count(%d) again = %d, %d", c.n, more, e)
		}
	}
	s := unpacked(t, plain("a", 5))
	for _, c := range []struct{ n, more int }{{0, -5}, {most, most}, {0, -most}, {7, 7}} {
		if more, e := s.Count("a", c.n); more != c.more || e != api.OK {
			t.Errorf("Count(%d) = %d, %d, not %d", c.n, more, e, c.more)
		}
	}
	has(t, "counted", s, plain("a", 5).with(free, 2, counted, 2))
}

// P7.1, R2
func TestCountRefuses(t *testing.T) {
	for _, c := range []struct {
		good string
		n    int
		want api.Errno
	}{
		{"a", -1, api.ErrArg}, {"a", most + 1, api.ErrArg}, {"a", math.MinInt, api.ErrArg}, {"a", math.MaxInt, api.ErrArg},
		{"z", -1, api.ErrArg}, {"", most + 1, api.ErrArg}, {"A", -1, api.ErrArg},
		{"z", 0, api.ErrGood}, {"z", most, api.ErrGood}, {"", 5, api.ErrGood}, {"A", 5, api.ErrGood}, {"abcdefghijklmnopq", 5, api.ErrGood},
		{"a", 0, api.ErrHeld}, {"a", 19, api.ErrHeld},
		{"a", most, api.ErrOver}, {"a", most - 69, api.ErrOver},
	} {
		s := unpacked(t, some("a"), some("b"))
		if more, e := s.Count(c.good, c.n); more != 0 || e != c.want {
			t.Errorf("Count(%q, %d) = %d, %d, not %d", c.good, c.n, more, e, c.want)
		}
		has(t, "refused", s, some("a"), some("b"))
	}
	// Fewer than are held, while picked and set aside are too many: the count of all that there may be.
	r := plain("a", 0).with(held, 9, picked, most-9, received, most)
	s := unpacked(t, r)
	if more, e := s.Count("a", 8); more != 0 || e != api.ErrHeld {
		t.Error(more, e)
	}
	if more, e := s.Count("a", 10); more != 0 || e != api.ErrOver {
		t.Error(more, e)
	}
	if more, e := s.Count("a", 9); more != 0 || e != api.OK {
		t.Error(more, e)
	}
	has(t, "refused", s, r)
}

// The chapter's example.
func TestExample(t *testing.T) {
	s := stock.New()
	if e := s.Do(api.DoReceive, list("a 5")); e != api.OK {
		t.Error(e)
	}
	if e := s.Do(api.DoHold, list("a 3")); e != api.OK {
		t.Error(e)
	}
	if n, e := s.Count("a", 2); n != 0 || e != api.ErrHeld {
		t.Error(n, e)
	}
	if n, e := s.Count("a", 4); n != -1 || e != api.OK {
		t.Error(n, e)
	}
	has(t, "example", s, row{good: "a"}.with(free, 1, held, 3, received, 5, counted, -1))
}

// R3: a list that is handed in, and the room behind it, is neither changed nor kept.
func TestDoLeavesItsList(t *testing.T) {
	room := list("a 1, b 2, c 3")
	for _, kind := range kinds() {
		s := unpacked(t, some("a"), some("b"), some("c"))
		if e := s.Do(kind, room[:2]); e != api.OK {
			t.Error(e)
		}
		if !slices.Equal(room, list("a 1, b 2, c 3")) {
			t.Fatalf("kind %d: %v", kind, room)
		}
		after := s.Pack()
		l := list("a 1")
		s = unpacked(t, some("a"), some("b"), some("c"))
		s.Do(kind, room[:2])
		l[0] = api.Item{Good: "z", N: 9}
		if !bytes.Equal(s.Pack(), after) {
			t.Errorf("kind %d: it kept the list", kind)
		}
	}
}
