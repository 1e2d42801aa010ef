package region_test

import (
	"bytes"
	"math"
	"math/rand"
	"slices"
	"testing"

	"entrepot/api"
	"entrepot/cells"
	"entrepot/hold"
	"entrepot/lists"
	"entrepot/posts"
	"entrepot/region"
)

func nums(l ...int) []byte {
	var b []byte
	for _, n := range l {
		b = append(b, cells.Num(n)...)
	}
	return b
}

// put is a list's code, put down as its chapter tells it.
func put(l []api.Item) []byte {
	b := cells.Num(len(l))
	for _, i := range l {
		b = append(append(b, cells.Num(len(i.Good))...), i.Good...)
		b = append(b, cells.Num(i.N)...)
	}
	return b
}

// moving is the code of moves.
func moving(l ...api.Way) []byte {
	b := cells.Num(len(l))
	for _, w := range l {
		b = append(append(b, nums(w.Move, w.From, w.To)...), put(w.Items)...)
		came := 0
		if w.Came {
			came = 1
		}
		b = append(b, nums(came)...)
	}
	return b
}

func way(number, from, to int, l string) api.Way {
	return api.Way{Move: number, From: from, To: to, Items: list(l)}
}

// stuckLists are the codes of lists.
func stuckLists(l ...string) [][]byte {
	var b [][]byte
	for _, s := range l {
		b = append(b, put(list(s)))
	}
	return b
}

// joined is a saved region.
func joined(shelf, moves []byte, stuck ...[]byte) []byte {
	return cells.Join(append([][]byte{shelf, moves}, stuck...)...)
}

// rich is a shelf with some of all.
func rich() []byte {
	return shelf(received("a 9, b 4"), func(s *hold.Shelf) {
		s.Take(65, list("a 2, b 1"))
		s.Take(68, list("a 3"))
		s.Pick(68)
		s.Do(api.DoReturn, list("c 4"))
	})
}

func loads(t *testing.T, name string, b []byte) *bench {
	t.Helper()
	r, e := region.Load(b, 1, 3)
	if e != api.OK || r == nil {
		t.Fatalf("%s: %d", name, e)
	}
	if got := r.Save(); !bytes.Equal(got, b) {
		t.Fatalf("%s: %q, not %q", name, got, b)
	}
	return &bench{r, t, 1, 3}
}

func refuses(t *testing.T, name string, b []byte) {
	t.Helper()
	if r, e := region.Load(b, 1, 3); r != nil || e != api.ErrCode {
		t.Errorf("%s: %v, %d", name, r, e)
	}
}

// P22.3: put down by hand, with what the shelf's chapter says of its part.
func TestSave(t *testing.T) {
	b := crowded(t)
	s := hold.New()
	s.Do(api.DoReceive, []api.Item{{Good: "a", N: most - 10}, {Good: "b", N: 5}})
	s.Do(api.DoReturn, list("a 5"))
	s.Take(65, list("a 100"))
	saves := func(moves []byte, stuck ...[]byte) {
		t.Helper()
		if got := b.Save(); !bytes.Equal(got, joined(s.Pack(), moves, stuck...)) {
			t.Fatalf("%q, not %q", got, joined(s.Pack(), moves, stuck...))
		}
	}
	saves(moving())
	b.Mail(come(1, "a 9, c 1"), 0)
	b.Mail(come(1, "a 8"), 2)
	saves(moving(), stuckLists("a 9, c 1", "a 8")...)
	b.Mail(send(2, 2, "a 3, b 1"), 0)
	s.Do(api.DoSend, list("a 3, b 1"))
	s.Do(api.DoCome, list("a 8"))
	saves(moving(way(131, 1, 2, "a 3, b 1")), stuckLists("a 9, c 1")...)
	b.Mail(send(1, 0, "b 2"), 0)
	s.Do(api.DoSend, list("b 2"))
	saves(moving(way(67, 1, 0, "b 2"), way(131, 1, 2, "a 3, b 1")), stuckLists("a 9, c 1")...)
	b.Mail(come(1, "a 7"), 2)
	saves(moving(way(67, 1, 0, "b 2"), way(131, 1, 2, "a 3, b 1")), stuckLists("a 9, c 1", "a 7")...)
}

// P22.3: of nothing.
func TestSaveOfNothing(t *testing.T) {
	none := []byte{3, 1, 0, 0, 1, 0}
	for regions := 1; regions <= 8; regions++ {
		for me := range regions {
			if b := at(t, me, regions).Save(); !bytes.Equal(b, none) {
				t.Errorf("%q", b)
			}
			if r, e := region.Load(none, me, regions); e != api.OK || r == nil || !bytes.Equal(r.Save(), none) {
				t.Error(me, regions, e)
			}
		}
	}
}

// P22.3: ErrArg as New has it, ahead of ErrCode.
func TestLoadOfNoRegion(t *testing.T) {
	numbers := []int{math.MinInt, -1, 0, 1, 2, 7, 8, 9, math.MaxInt}
	none := joined(shelf(), moving())
	for _, regions := range numbers {
		for _, me := range numbers {
			_, want := region.New(me, regions)
			for _, b := range [][]byte{nil, none, joined(rich(), moving(way(5, 1, 2, "a 1")))} {
				r, e := region.Load(b, me, regions)
				if want != api.OK && (r != nil || e != api.ErrArg) {
					t.Error(me, regions, e)
				}
			}
		}
	}
}

// P22.3: a move that is not from me.
func TestLoadRefusesMoves(t *testing.T) {
	for me := range 8 {
		for from := range 8 {
			to := (from + 1) % 8
			for _, l := range [][]api.Way{{way(5, from, to, "a 1")}, {way(4, me, (me+1)%8, "a 1"), way(5, from, to, "a 1")}, {way(5, from, to, "a 1"), way(6, me, (me+1)%8, "a 1")}} {
				_, e := region.Load(joined(shelf(), moving(l...)), me, 8)
				if (e == api.OK) != (from == me) {
					t.Error(me, from, e)
				}
			}
		}
	}
	came := way(5, 1, 0, "a 1")
	came.Came = true
	loads(t, "one that came", joined(shelf(), moving(came)))
	loads(t, "to a region that there is not", joined(shelf(), moving(way(5, 1, 7, "a 1"))))
	for name, l := range map[string][]api.Way{
		"to itself":      {way(5, 1, 1, "a 1")},
		"numbers fall":   {way(5, 1, 2, "a 1"), way(4, 1, 2, "a 1")},
		"a number twice": {way(5, 1, 2, "a 1"), way(5, 1, 2, "a 1")},
		"of nothing":     {way(5, 1, 2, "")},
		"no number":      {way(0, 1, 2, "a 1")},
		"no region":      {way(5, 1, 8, "a 1")},
	} {
		refuses(t, name, joined(shelf(), moving(l...)))
	}
}

// P22.3: fewer than two texts, and parts that are none of their kind.
func TestLoadRefusesParts(t *testing.T) {
	moves := moving(way(5, 1, 2, "a 1"), way(9, 1, 0, "b 2, c 3"))
	whole := joined(rich(), moves, stuckLists("a 7, z 1", "b 2")...)
	b := loads(t, "whole", whole)
	b.stuck(2)
	b.hold(65, "a 2, b 1", "", "")
	b.hold(68, "", "a 3", "")
	texts, _ := cells.Split(whole)
	ends := map[int]bool{}
	for i := 2; i <= len(texts); i++ {
		ends[len(cells.Join(texts[:i]...))] = true
	}
	for size := range whole {
		if !ends[size] {
			refuses(t, "cut off", whole[:size])
		} else {
			loads(t, "fewer lists", whole[:size])
		}
	}
	refuses(t, "nothing", nil)
	refuses(t, "one text", cells.Join(rich()))
	refuses(t, "one text of nothing", cells.Join(shelf()))
	refuses(t, "one text, and no cell", append(cells.Join(rich()), 0x90))
	for i, text := range texts {
		for _, other := range [][]byte{nil, {0x90}, append(slices.Clone(text), 0), text[:len(text)-1], texts[(i+1)%len(texts)]} {
			l := slices.Clone(texts)
			l[i] = other
			// The last two are both lists.
			if i < 2 || !bytes.Equal(other, texts[3]) {
				refuses(t, "a part of another kind", cells.Join(l...))
			}
		}
	}
	for name, l := range map[string][]api.Item{
		"an empty list": nil, "goods that fall": list("b 1, a 1"), "nothing of a good": list("a 0"), "below 0": list("a -1"), "no good": list("A 1"), "a good twice": list("a 1, a 1"),
		"too many": {{Good: "a", N: most + 1}}, "too many goods": lists.Many(0, 17, 1),
	} {
		for place := range 3 {
			refuses(t, name, joined(rich(), moves, slices.Insert(stuckLists("a 1", "b 1"), place, put(l))...))
		}
	}
	loads(t, "a list of 16", joined(rich(), moves, put(lists.Many(0, 16, most))))
	// A shelf that is not sound: more is held than its orders have.
	unsound := hold.New()
	unsound.Do(api.DoReceive, list("a 1"))
	stock := unsound.Stock()
	stock.Do(api.DoHold, list("a 1"))
	code, _ := cells.New().Text(string(stock.Pack())).Num(0).Done()
	refuses(t, "not sound", joined(code, moving()))
}

// P22.3: lists that could be put away are tried when the next MailDo or MailGoods comes, in their order.
func TestLoadGoesOn(t *testing.T) {
	for _, m := range []api.Mail{come(1, ""), come(1, "q 1"), do(9, api.AskScrap, "q 1"), do(9, api.AskReceive, "q 1"), count(9, "q", 1)} {
		b := loads(t, "with lists", joined(shelf(received("a 1, b 1")), moving(), stuckLists("a 7, z 1", "b 2", "a 1")...))
		for _, other := range []api.Mail{take(5, "a 1, z 1"), pick(5), ship(5), free(5)} {
			b.Mail(other, 0)
			b.stuck(3)
		}
		l := b.Mail(m, 2)
		b.stuck(0)
		b.flow("a", api.Flow{Received: 1, Came: 8, Shipped: 1})
		if n := len(l); n < 3 || !posts.Same(l[n-3:], posts.News(3)) {
			t.Error(posts.Text(l))
		}
	}
}

// P22.3: what is loaded is saved to the same bytes, whatever bytes they are.
func TestLoadOfChangedBytes(t *testing.T) {
	r := rand.New(rand.NewSource(223))
	whole := joined(rich(), moving(way(5, 1, 2, "a 1"), way(9, 1, 0, "b 2, c 3")), stuckLists("a 7, z 1", "b 2")...)
	taken := 0
	for range 100000 {
		b := slices.Clone(whole)
		for range 1 + r.Intn(2) {
			b[r.Intn(len(b))] = byte(r.Intn(256))
		}
		x, e := region.Load(b, 1, 3)
		if e == api.ErrCode && x == nil {
			continue
		}
		taken++
		if e != api.OK || !bytes.Equal(x.Save(), b) || !x.Sound() {
			t.Fatalf("%q: %d, %q", b, e, x.Save())
		}
	}
	if taken < 500 {
		t.Error("taken:", taken)
	}
}

// R3: what is loaded keeps nothing of the bytes.
func TestLoadKeepsNothing(t *testing.T) {
	b := joined(rich(), moving(way(5, 1, 2, "a 1")), stuckLists("a 7")...)
	want := slices.Clone(b)
	r, _ := region.Load(b, 1, 3)
	clear(b)
	if !bytes.Equal(r.Save(), want) {
		t.Error("kept")
	}
}
