package hold_test

import (
	"bytes"
	"maps"
	"math/rand"
	"slices"
	"testing"

	"entrepot/api"
	"entrepot/hold"
	"entrepot/items"
	"entrepot/stock"
)

// model is a shelf reckoned plainly: a stock, and of each order sums by goods, of what is held, picked, shipped.
type model struct {
	goods *stock.Stock
	holds map[int]*[3]map[string]int
}

func (m *model) at(order int) *[3]map[string]int {
	if m.holds[order] == nil {
		m.holds[order] = &[3]map[string]int{{}, {}, {}}
	}
	return m.holds[order]
}

func listed(sums map[string]int) []api.Item {
	var l []api.Item
	for _, good := range slices.Sorted(maps.Keys(sums)) {
		l = append(l, api.Item{Good: good, N: sums[good]})
	}
	return l
}

func (m *model) all() []api.Hold {
	var l []api.Hold
	for _, order := range slices.Sorted(maps.Keys(m.holds)) {
		h := m.holds[order]
		if len(h[0])+len(h[1])+len(h[2]) > 0 {
			l = append(l, api.Hold{Order: order, Held: listed(h[0]), Picked: listed(h[1]), Shipped: listed(h[2])})
		}
	}
	return l
}

func (m *model) take(order int, l []api.Item) ([]api.Item, api.Errno) {
	h := m.at(order)
	if !items.May(l) {
		return nil, api.ErrItems
	}
	if len(h[1])+len(h[2]) > 0 {
		return nil, api.ErrState
	}
	var got []api.Item
	sums := maps.Clone(h[0])
	for _, i := range l {
		if n := min(i.N, m.goods.Level(i.Good).Free); n > 0 {
			got = append(got, api.Item{Good: i.Good, N: n})
			sums[i.Good] += n
		}
	}
	if len(h[0]) == 0 && len(got) > 0 && len(m.all()) == 256 {
		return nil, api.ErrFull
	}
	if len(sums) > 16 {
		return nil, api.ErrLong
	}
	h[0] = sums
	return got, m.goods.Do(api.DoHold, got)
}

// pass moves one list of an order behind another one; to -1: away.
func (m *model) pass(kind, order, from, to int) ([]api.Item, api.Errno) {
	h := m.at(order)
	switch {
	case kind == api.DoRelease && len(h[1]) > 0:
		return nil, api.ErrState
	case len(h[from]) == 0:
		return nil, api.ErrNone
	}
	l := listed(h[from])
	if to >= 0 {
		for good, n := range h[from] {
			h[to][good] += n
		}
	}
	h[from] = map[string]int{}
	return l, m.goods.Do(kind, l)
}

// step does something by chance to both, and answers what each of them says.
func step(r *rand.Rand, s *hold.Shelf, m *model, names []string, orders int) (got, want []api.Item, e, wanted api.Errno) {
	order := 1 + r.Intn(orders)
	var l []api.Item
	for _, good := range names {
		if r.Intn(len(names)) < 6 {
			l = append(l, api.Item{Good: good, N: 1 + r.Intn(6)})
		}
	}
	if r.Intn(30) == 0 {
		r.Shuffle(len(l), func(i, j int) { l[i], l[j] = l[j], l[i] })
	}
	switch r.Intn(12) {
	case 0, 1, 2, 3, 4:
		want, wanted = m.take(order, l)
		got, e = s.Take(order, l)
	case 5:
		want, wanted = m.pass(api.DoRelease, order, 0, -1)
		got, e = s.Free(order)
	case 6:
		want, wanted = m.pass(api.DoPick, order, 0, 1)
		got, e = s.Pick(order)
	case 7:
		want, wanted = m.pass(api.DoUnpick, order, 1, 0)
		got, e = s.Unpick(order)
	case 8:
		if r.Intn(8) == 0 {
			want, wanted = m.pass(api.DoShip, order, 1, 2)
			got, e = s.Ship(order)
		}
	case 9:
		good, n := names[r.Intn(len(names))], r.Intn(1000)
		_, wanted = m.goods.Count(good, n)
		_, e = s.Count(good, n)
	default:
		kind := []int{api.DoReceive, api.DoReceive, api.DoReturn, api.DoRestock, api.DoScrap, api.DoSend, api.DoCome}[r.Intn(7)]
		wanted = m.goods.Do(kind, l)
		e = s.Do(kind, l)
	}
	return got, want, e, wanted
}

// P8.1 to P8.3: a shelf is sound always; what is refused changes nothing; all as the model has it.
func TestShelfBesideAModel(t *testing.T) {
	r := rand.New(rand.NewSource(11))
	met := map[api.Errno]int{}
	for round := range 20 {
		var names []string
		for _, i := range goods(0, []int{25, 6, 40, 12}[round%4], 1) {
			names = append(names, i.Good)
		}
		orders := []int{3, 12, 40, 600}[round%4]
		s, m := hold.New(), &model{stock.New(), map[int]*[3]map[string]int{}}
		for i := range 300 + 2*orders {
			got, want, e, wanted := step(r, s, m, names, orders)
			if !slices.Equal(got, want) || e != wanted {
				t.Fatalf("%v, %d, not %v, %d", got, e, want, wanted)
			}
			met[e]++
			// Of many orders not behind each step: that would take long.
			if !s.Sound() || i%(1+orders/30) == 0 && !bytes.Equal(s.Pack(), code(m.goods.Pack(), m.all()...)) {
				t.Fatal("not the model's code")
			}
		}
		has(t, "at the end", s, m.all()...)
		u, e := hold.Unpack(s.Pack())
		if e != api.OK {
			t.Fatal(e)
		}
		has(t, "unpacked", u, m.all()...)
	}
	for _, e := range []api.Errno{api.OK, api.ErrItems, api.ErrState, api.ErrNone, api.ErrFull, api.ErrLong, api.ErrGood, api.ErrLess, api.ErrHeld} {
		if met[e] < 10 {
			t.Errorf("error %d was met %d times", e, met[e])
		}
	}
}

// P8.2: what is unpacked is packed to the same bytes, and sound, whatever bytes they are.
func TestUnpackOfChangedBytes(t *testing.T) {
	r := rand.New(rand.NewSource(12))
	whole := code(stockCode(good{"a", 1, 2, 1, 0}, good{"b", 0, 1, 1, 0}), of(1, "a 1", "b 1", ""), of(2, "a 1, b 1", "a 1", "b 2"))
	taken := 0
	for range 300000 {
		b := slices.Clone(whole)
		for range 1 + r.Intn(4) {
			b[r.Intn(len(b))] = []byte("\x00\x01\x02\x03\x04\x81\x90\x91ab")[r.Intn(10)]
		}
		s, e := hold.Unpack(b)
		if e == api.ErrCode && s == nil {
			continue
		}
		taken++
		if e != api.OK || !bytes.Equal(s.Pack(), b) || !s.Sound() || !sums(s.Stock(), slices.Collect(s.Orders())) {
			t.Fatalf("%q: %d, %q", b, e, s.Pack())
		}
	}
	if taken < 100 {
		t.Error("taken:", taken)
	}
}
