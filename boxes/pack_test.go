package boxes_test

import (
	"math/rand"
	"slices"
	"testing"

	"entrepot/api"
	"entrepot/boxes"
	"entrepot/items"
	"entrepot/lists"
)

// P28.1
func TestSizes(t *testing.T) {
	all := []api.Size{size("-", 1, 1), size("0", 5, 7), size("a", most, 1), size("abcdefghijklmnop", 1, most), size("b", most, most)}
	for n := range len(all) + 1 {
		if !boxes.Sizes(all[:n]) || !boxes.Sizes(all[n:]) {
			t.Error(n)
		}
	}
	// There may be more than a list has, or a stock knows.
	var many []api.Size
	for i := range 900 {
		many = append(many, size(lists.Many(i, 1, 1)[0].Good, 1+i, 901-i))
	}
	if !boxes.Sizes(many) || !boxes.Sizes(nil) || !boxes.Sizes([]api.Size{}) {
		t.Error("many, or none")
	}
	for _, l := range wrongSizes() {
		if boxes.Sizes(l) {
			t.Error(l)
		}
	}
	many[700] = many[701]
	if boxes.Sizes(many) {
		t.Error("a good twice")
	}
}

// packs looks what Pack and Least answer.
func packs(t *testing.T, l []api.Item, sizes []api.Size, b api.Box, want string, least int, e api.Errno) {
	t.Helper()
	kept, sized := slices.Clone(l), slices.Clone(sizes)
	all, code := boxes.Pack(l, sizes, b)
	if !same(all, of(want)) || code != e {
		t.Errorf("Pack %v %v %v: %v, %d, not %s, %d", l, sizes, b, all, code, want, e)
	}
	n, code := boxes.Least(l, sizes, b)
	if n != least || code != e {
		t.Errorf("Least %v %v %v: %d, %d, not %d, %d", l, sizes, b, n, code, least, e)
	}
	if !slices.Equal(l, kept) || !slices.Equal(sizes, sized) {
		t.Error("changed:", l, sizes)
	}
}

// P28.1: by hand.
func TestPack(t *testing.T) {
	sizes := []api.Size{size("a", 4, 1), size("b", 6, 1), size("c", 3, 8), size("d", 3, 9), size("e", 3, 8), size("f", 1, 1)}
	packs(t, nil, sizes, box(10, 10), "", 0, api.OK)
	packs(t, []api.Item{}, nil, box(1, 1), "", 0, api.OK)
	packs(t, list("a 1"), sizes, box(10, 10), "a 1", 1, api.OK)
	packs(t, list("a 2"), sizes, box(10, 10), "a 2", 1, api.OK)
	packs(t, list("a 3"), sizes, box(10, 10), "a 2; a 1", 2, api.OK)
	packs(t, list("a 5"), sizes, box(10, 10), "a 2; a 2; a 1", 2, api.OK)
	// The larger ones first, and the others into what is left.
	packs(t, list("a 3, b 2"), sizes, box(10, 10), "a 1, b 1; a 1, b 1; a 1", 3, api.OK)
	packs(t, list("a 1, b 3, f 3"), sizes, box(10, 10), "a 1, b 1; b 1, f 3; b 1", 3, api.OK)
	packs(t, list("a 1, b 3, f 9"), sizes, box(10, 10), "a 1, b 1; b 1, f 4; b 1, f 4; f 1", 4, api.OK)
	// Of equal volumes the heavier ones first; of equal ones by goods.
	packs(t, list("c 1, d 1, f 2"), sizes, box(10, 10), "d 1, f 1; c 1, f 1", 2, api.OK)
	packs(t, list("c 1, e 1, f 3"), sizes, box(10, 10), "c 1, f 2; e 1, f 1", 2, api.OK)
	packs(t, list("c 1, e 1"), sizes, box(10, 10), "c 1; e 1", 2, api.OK)
	packs(t, list("c 2, d 2, e 2"), sizes, box(10, 17), "c 1, d 1; c 1, d 1; e 2", 3, api.OK)
	packs(t, list("c 1, d 1, e 1"), sizes, box(9, 25), "c 1, d 1, e 1", 1, api.OK)
	packs(t, list("c 1, d 1, e 1"), sizes, box(8, 25), "c 1, d 1; e 1", 2, api.OK)
	packs(t, list("c 1, d 1, e 1"), sizes, box(9, 24), "c 1, d 1; e 1", 2, api.OK)
	// A box that is full in one way alone has no room.
	packs(t, list("a 2, f 3"), sizes, box(8, 9), "a 2; f 3", 2, api.OK)
	packs(t, list("c 2, f 3"), sizes, box(99, 10), "c 1, f 2; c 1, f 1", 2, api.OK)
}

// P28.1: as many, as large, and as heavy as may be.
func TestPackOfTheMost(t *testing.T) {
	l, n := boxes.Pack(list("a 4096"), one("a", most), box(most, most))
	if n != api.OK || len(l) != 4096 {
		t.Fatal(len(l), n)
	}
	for _, in := range l {
		if !slices.Equal(in, list("a 1")) {
			t.Fatal(in)
		}
	}
	for _, c := range []struct {
		size  api.Size
		box   api.Box
		least int
	}{
		{size("a", most, most), box(most, most), 4096},
		{size("a", most, 1), box(most, most), 4096},
		{size("a", 1, most), box(most, most), 4096},
		{size("a", 1, 1), box(most, most), 1},
		{size("a", 1, 1), box(4096, 4096), 1},
		{size("a", 1, 1), box(4095, 4096), 2},
		{size("a", 1, 1), box(4096, 4095), 2},
		{size("a", 1, 1), box(1, 1), 4096},
		{size("a", 2, 1), box(3, 1000), 2731},
		{size("a", 1, 2), box(1000, 3), 2731},
	} {
		if n, e := boxes.Least(list("a 4096"), []api.Size{c.size}, c.box); n != c.least || e != api.OK {
			t.Error(c, n, e)
		}
	}
	packs(t, list("a 4096"), one("a", 1), box(4096, 4096), "a 4096", 1, api.OK)
	packs(t, list("a 4000, b 96"), one("a b", 1), box(4096, 4095), "a 4000, b 95; b 1", 2, api.OK)
	packs(t, lists.Many(0, 16, 256), nil, box(1, 1), "", 0, api.ErrGood)
}

// P28.1: many goods of few sizes, in boxes for one piece each: they lie there in the order in which they are packed.
func TestPackByGoods(t *testing.T) {
	l := lists.Many(0, 16, 1)
	for _, equal := range []int{1, 2, 3, 5, 16} {
		var sizes []api.Size
		for i, item := range l {
			sizes = append(sizes, size(item.Good, 10, 6+i%equal))
		}
		all, e := boxes.Pack(l, sizes, box(19, 99))
		var want [][]api.Item
		for kind := equal - 1; kind >= 0; kind-- {
			for i := kind; i < 16; i += equal {
				want = append(want, l[i:i+1])
			}
		}
		if e != api.OK || !same(all, want) {
			t.Error(equal, all, e)
		}
	}
}

// P28.1: each refusal beside all that come behind it.
func TestPackRefuses(t *testing.T) {
	good := []api.Size{size("a", 2, 2), size("c", 3, 3), size("g100", 1, 1)}
	lists := [][]api.Item{nil, list("a 1"), list("b 1"), list("a 4097"), list("c 1"), list("a 5000, b 1"), list("c 4097")}
	for _, l := range mayNots() {
		for _, sizes := range append(wrongSizes(), nil, good) {
			for _, b := range append(noBoxes(), box(9, 9), box(1, 1)) {
				packs(t, l, sizes, b, "", 0, api.ErrItems)
			}
		}
	}
	for _, l := range lists {
		for _, sizes := range append(wrongSizes(), nil, good) {
			for _, b := range noBoxes() {
				packs(t, l, sizes, b, "", 0, api.ErrArg)
			}
		}
		for _, sizes := range wrongSizes() {
			packs(t, l, sizes, box(9, 9), "", 0, api.ErrArg)
		}
	}
	for _, b := range []api.Box{box(9, 9), box(1, 1), box(1, 9), box(9, 1)} {
		for _, l := range []string{"b 1", "a 1, b 1", "b 5000", "a 4097, b 1", "c 1, d 1", "0 1", "aa 1", "cc 1, g100 1"} {
			packs(t, list(l), good, b, "", 0, api.ErrGood)
		}
		packs(t, list("a 1"), nil, b, "", 0, api.ErrGood)
		for _, l := range []string{"a 4097", "a 4096, c 1", "c 1099511627776", "a 2048, c 2049", "a 1, c 4096", "g100 4097"} {
			packs(t, list(l), good, b, "", 0, api.ErrLong)
		}
	}
	for _, b := range []api.Box{box(1, 1), box(2, 1), box(1, 2), box(2, 2), box(9, 2), box(2, 9)} {
		for _, l := range []string{"c 1", "a 1, c 1", "c 4096"} {
			packs(t, list(l), good, b, "", 0, api.ErrFull)
		}
	}
	packs(t, list("a 1, c 1"), good, box(3, 3), "c 1; a 1", 2, api.OK)
}

// R3
func TestPackAnswersNewLists(t *testing.T) {
	want := "a 1, b 1; a 1, b 1; a 1"
	sizes := []api.Size{size("a", 4, 1), size("b", 6, 1)}
	l, _ := boxes.Pack(list("a 3, b 2"), sizes, box(10, 10))
	for i := range l {
		ruin(l[i], api.Item{Good: "ruin", N: 7})
		if !same(l[i+1:], of(want)[i+1:]) {
			t.Error(l)
		}
	}
	ruin(l, nil)
	if l, _ := boxes.Pack(list("a 3, b 2"), sizes, box(10, 10)); !same(l, of(want)) {
		t.Error(l)
	}
}

// piece is one of a good.
type piece struct {
	good           string
	volume, weight int
}

// pieces are all of them, in the order in which they are packed: each time the one that comes first of those that are left.
func pieces(l []api.Item, sizes []api.Size) []piece {
	var left, all []piece
	for _, i := range l {
		for _, s := range sizes {
			for range i.N {
				if s.Good == i.Good {
					left = append(left, piece{s.Good, s.Volume, s.Weight})
				}
			}
		}
	}
	for len(left) > 0 {
		first := 0
		for i, p := range left {
			q := left[first]
			if p.volume > q.volume || p.volume == q.volume && (p.weight > q.weight || p.weight == q.weight && p.good < q.good) {
				first = i
			}
		}
		all = append(all, left[first])
		left = slices.Delete(left, first, first+1)
	}
	return all
}

// plainly packs piece by piece.
func plainly(l []api.Item, sizes []api.Size, b api.Box) [][]piece {
	var all [][]piece
	for _, p := range pieces(l, sizes) {
		at := 0
		for at < len(all) && !fits(append(slices.Clone(all[at]), p), b) {
			at++
		}
		if at == len(all) {
			all = append(all, nil)
		}
		all[at] = append(all[at], p)
	}
	return all
}

func load(l []piece) (volume, weight int) {
	for _, p := range l {
		volume += p.volume
		weight += p.weight
	}
	return volume, weight
}

func fits(l []piece, b api.Box) bool {
	volume, weight := load(l)
	return volume <= b.Volume && weight <= b.Weight
}

func listed(l []piece) []api.Item {
	var all []api.Item
	for _, p := range l {
		all = append(all, api.Item{Good: p.good, N: 1})
	}
	norm, _ := items.Norm(all)
	return norm
}

// anySizes are of some of the goods a to g, in few sizes, so that many are equal.
func anySizes(r *rand.Rand, most int) []api.Size {
	var l []api.Size
	for i := range 7 {
		if r.Intn(4) > 0 {
			l = append(l, size("abcdefg"[i:i+1], 1+r.Intn(most), 1+r.Intn(most)))
		}
	}
	return l
}

// P28.1, P28.4: beside packing piece by piece; all is packed, each box fits, there are no fewer than Least, and of two one behind the other one is more than half full.
func TestPackBesideAPlainOne(t *testing.T) {
	r := rand.New(rand.NewSource(281))
	began := 0
	for range 4000 {
		sizes := anySizes(r, []int{2, 5, 20}[r.Intn(3)])
		var l []api.Item
		for _, s := range sizes {
			if r.Intn(3) > 0 {
				l = append(l, api.Item{Good: s.Good, N: 1 + r.Intn(8)})
			}
		}
		b := box(20+r.Intn(30), 20+r.Intn(30))
		all, e := boxes.Pack(l, sizes, b)
		want := plainly(l, sizes, b)
		if e != api.OK || len(all) != len(want) {
			t.Fatal(l, sizes, b, all, want, e)
		}
		began += len(all)
		least, e := boxes.Least(l, sizes, b)
		volume, weight := load(pieces(l, sizes))
		if e != api.OK || least > len(all) || least*b.Volume < volume || least*b.Weight < weight || least > 0 && (least-1)*b.Volume >= volume && (least-1)*b.Weight >= weight {
			t.Fatal(l, sizes, b, least, e)
		}
		var together []api.Item
		half := true
		for i, in := range all {
			if !slices.Equal(in, listed(want[i])) || !items.May(in) || len(in) == 0 || !fits(want[i], b) {
				t.Fatal(l, sizes, b, all, want)
			}
			together, _ = items.Plus(together, in)
			v, w := load(want[i])
			more := 2*v > b.Volume || 2*w > b.Weight
			if !half && !more {
				t.Fatal("half full:", l, sizes, b, all)
			}
			half = more
		}
		if !slices.Equal(together, l) {
			t.Fatal(l, together)
		}
	}
	if began < 10000 {
		t.Error(began)
	}
}
