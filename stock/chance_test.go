package stock_test

import (
	"bytes"
	"math/rand"
	"slices"
	"testing"

	"entrepot/api"
	"entrepot/items"
	"entrepot/stock"
)

// model is a stock reckoned plainly, with rows in order.
type model []row

func (m model) find(good string) int {
	return slices.IndexFunc(m, func(r row) bool { return r.good == good })
}

// do reckons item by item, and tells of all errors that it met the one that the chapter names first.
func (m model) do(kind int, l []api.Item) (model, api.Errno) {
	if kind < api.DoReceive || kind > api.DoCome {
		return m, api.ErrArg
	}
	if !items.May(l) {
		return m, api.ErrItems
	}
	p, then := table(kind), slices.Clone(m)
	met := map[api.Errno]int{}
	for _, i := range l {
		at := then.find(i.Good)
		if at < 0 {
			if p[0] >= 0 {
				met[api.ErrGood]++
				continue
			}
			at = len(then)
			then = append(then, row{good: i.Good})
		}
		r := &then[at]
		for j, sign := range []int{-1, 1, 1} {
			if p[j] >= 0 {
				r.n[p[j]] += sign * i.N
			}
		}
		sum := 0
		for place, n := range r.n {
			if place <= aside {
				sum += n
			}
			if n < 0 && place != counted {
				met[api.ErrLess]++
			}
			if place <= aside && n > most || place > aside && place != counted && n > mostFlow {
				met[api.ErrOver]++
			}
		}
		if sum > most {
			met[api.ErrOver]++
		}
	}
	if len(then) > 64 {
		met[api.ErrFull]++
	}
	for _, e := range []api.Errno{api.ErrGood, api.ErrLess, api.ErrOver, api.ErrFull} {
		if met[e] > 0 {
			return m, e
		}
	}
	slices.SortFunc(then, func(a, b row) int { return bytes.Compare([]byte(a.good), []byte(b.good)) })
	return then, api.OK
}

func (m model) count(good string, n int) (model, int, api.Errno) {
	at := m.find(good)
	switch {
	case n < 0 || n > most:
		return m, 0, api.ErrArg
	case at < 0:
		return m, 0, api.ErrGood
	case n < m[at].n[held]:
		return m, 0, api.ErrHeld
	case n+m[at].n[picked]+m[at].n[aside] > most:
		return m, 0, api.ErrOver
	}
	then := slices.Clone(m)
	more := n - then[at].n[free] - then[at].n[held]
	then[at] = then[at].with(free, more, counted, more)
	return then, more, api.OK
}

// anyList is mostly one that may be.
func anyList(r *rand.Rand, names []string, greatest int) []api.Item {
	var l []api.Item
	for _, good := range names {
		if r.Intn(len(names)) < 3 {
			l = append(l, api.Item{Good: good, N: 1 + r.Intn(greatest)})
		}
	}
	if r.Intn(30) == 0 {
		r.Shuffle(len(l), func(i, j int) { l[i], l[j] = l[j], l[i] })
	}
	return l
}

// P7.1 to P7.3, P2: each good is balanced always; what is refused changes nothing; all as the model has it.
func TestStockBesideAModel(t *testing.T) {
	r := rand.New(rand.NewSource(7))
	met := map[api.Errno]int{}
	for round := range 60 {
		var names []string
		for _, i := range goods(0, []int{3, 80, 12, 80}[round%4], 1) {
			names = append(names, i.Good)
		}
		greatest := []int{4, 30, most / 3}[round%3]
		s, m := stock.New(), model(nil)
		for range 400 {
			var e, want api.Errno
			if r.Intn(6) == 0 {
				var more, wanted int
				good, n := names[r.Intn(len(names))], r.Intn(3*greatest)
				m, wanted, want = m.count(good, n)
				if more, e = s.Count(good, n); more != wanted {
					t.Fatalf("Count(%s, %d) = %d, not %d", good, n, more, wanted)
				}
			} else {
				kind, l := r.Intn(13), anyList(r, names, greatest)
				m, want = m.do(kind, l)
				e = s.Do(kind, l)
			}
			if e != want {
				t.Fatalf("%d, not %d", e, want)
			}
			met[e]++
			if !bytes.Equal(s.Pack(), code(t, m...)) {
				t.Fatal("not the model's code")
			}
		}
		has(t, "at the end", s, m...)
		u, e := stock.Unpack(s.Pack())
		if e != api.OK {
			t.Fatal(e)
		}
		has(t, "unpacked", u, m...)
	}
	for _, e := range []api.Errno{api.OK, api.ErrArg, api.ErrItems, api.ErrGood, api.ErrLess, api.ErrOver, api.ErrFull, api.ErrHeld} {
		if met[e] < 20 {
			t.Errorf("error %d was met %d times", e, met[e])
		}
	}
}

// P7.3: what was released behind being held is as it was.
func TestReleasedIsAsItWas(t *testing.T) {
	for _, pair := range [][2]int{{api.DoHold, api.DoRelease}, {api.DoPick, api.DoUnpick}} {
		s := unpacked(t, some("a"), some("b"), some("c"))
		for _, l := range []string{"a 1", "a 10, c 10", "a 3, b 10, c 1"} {
			if s.Do(pair[0], list(l)) != api.OK || s.Do(pair[1], list(l)) != api.OK {
				t.Error(pair, l)
			}
			has(t, "as it was", s, some("a"), some("b"), some("c"))
		}
	}
}

// P7.2: what is unpacked is packed to the same bytes, whatever bytes they are.
func TestUnpackOfChangedBytes(t *testing.T) {
	r := rand.New(rand.NewSource(8))
	whole := code(t, plain("a", 3), row{good: "b"}.with(held, 1, returned, 2, scrapped, 1))
	taken := 0
	for range 300000 {
		b := slices.Clone(whole)
		for range 1 + r.Intn(4) {
			b[r.Intn(len(b))] = []byte("\x00\x01\x02\x03\x04\x81\x90\x91ab")[r.Intn(10)]
		}
		s, e := stock.Unpack(b)
		if e == api.ErrCode && s == nil {
			continue
		}
		taken++
		if e != api.OK || !bytes.Equal(s.Pack(), b) {
			t.Fatalf("%q: %d, %q", b, e, s.Pack())
		}
		for good := range s.Goods() {
			if !stock.Balanced(s.Level(good), s.Flow(good)) {
				t.Fatalf("%q: %s is not balanced", b, good)
			}
		}
	}
	if taken < 100 {
		t.Error("taken:", taken)
	}
}
