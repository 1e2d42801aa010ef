package items_test

import (
	"math"
	"math/big"
	"math/rand"
	"slices"
	"strconv"
	"strings"
	"testing"

	"entrepot/api"
	"entrepot/items"
	"entrepot/lists"
)

const most = api.MaxCount

func list(s string) []api.Item {
	return lists.Of(s)
}

// goods are so many items, of rising goods, each of n.
func goods(many, n int) []api.Item {
	var l []api.Item
	for i := range many {
		l = append(l, api.Item{Good: "g" + strconv.Itoa(1000+i), N: n})
	}
	return l
}

func item(good string, n int) []api.Item {
	return []api.Item{{Good: good, N: n}}
}

// P6.1
func TestGood(t *testing.T) {
	for _, s := range []string{"a", "z", "0", "9", "-", "apple", "-7-", "a-b-c-0-9", "abcdefghijklmnop", "qrstuvwxyz012345", "6789-", "----------------"} {
		if !items.Good(s) {
			t.Errorf("%q is no good", s)
		}
	}
	for _, s := range []string{"", "abcdefghijklmnopq", strings.Repeat("-", 17), strings.Repeat("a", 1000), "A", "Z", "a b", " a", "a ", "a_b", "a.b", "ä", "aä", "ａ", "a\x00", "\x00", "a\n", "\xff", "a\xff", "\xc1\xa1", "a\xed\xa0\x80", "π", "1½"} {
		if items.Good(s) {
			t.Errorf("%q is a good", s)
		}
	}
	for b := range 256 {
		s := string([]byte{byte(b)})
		want := strings.Contains("abcdefghijklmnopqrstuvwxyz0123456789-", s)
		for _, s := range []string{s, "a" + s, s + "0", "abcdefghijklmno" + s} {
			if items.Good(s) != want {
				t.Errorf("Good(%q) = %v", s, !want)
			}
		}
	}
}

// P6.1: letters that are within the bounds as bytes, but longer, are none.
func TestGoodIsOfSingleBytes(t *testing.T) {
	for r := rune(128); r < 0x3000; r++ {
		if items.Good(string(r)) || items.Good("a"+string(r)) {
			t.Fatalf("%q is a good", r)
		}
	}
}

// mays are lists that may be.
func mays() [][]api.Item {
	return [][]api.Item{
		nil, {}, list("a 1"), list("a 1, b 1"), list("a 3, ab 1, b 2"), list("- 1, 0 1, 9 1, a 1, z 1"), list("a- 1, a0 1, aa 1"),
		item("a", most), append(item("a", most), item("b", most)...), goods(16, 1), goods(16, most), item("abcdefghijklmnop", 7),
	}
}

// mayNots are lists that may not be.
func mayNots() [][]api.Item {
	return [][]api.Item{
		list("a 0"), list("a -1"), item("a", most+1), item("a", math.MaxInt), item("a", math.MinInt), list("b 1, a 1"), list("a 1, a 1"), list("a 1, b 1, b 2"),
		list("b 1, c 1, a 1"), list("ab 1, a 1"), list("a 1, 0 1"), list("0 1, - 1"), list("A 1"), item("", 1), item("a b", 1), item("abcdefghijklmnopq", 1), item("ä", 1),
		append(item("", 1), item("a", 1)...), list("a 1, b 0"), list("a 0, b 1"), list("a 1, B 1"), append(list("a 1"), item("zä", 1)...), goods(17, 1), goods(17, most), goods(500, 1), {{}}, {{}, {}},
	}
}

// P6.1
func TestMay(t *testing.T) {
	for _, l := range mays() {
		if !items.May(l) {
			t.Errorf("%v may not be", l)
		}
	}
	for _, l := range mayNots() {
		if items.May(l) {
			t.Errorf("%v may be", l)
		}
	}
	if l := goods(17, 1); !items.May(l[:16]) {
		t.Error("it saw what lies behind the end")
	}
}

// P6.1: of several errors the one that the chapter names first.
func TestNorm(t *testing.T) {
	for _, c := range []struct {
		l    []api.Item
		want []api.Item
		e    api.Errno
	}{
		{nil, nil, api.OK},
		{[]api.Item{}, nil, api.OK},
		{list("a 3"), list("a 3"), api.OK},
		{list("b 1, a 2, b 4"), list("a 2, b 5"), api.OK},
		{list("b 1, ab 1, a 1, - 1, 0 1"), list("- 1, 0 1, a 1, ab 1, b 1"), api.OK},
		{list("a 0"), nil, api.OK},
		{list("a 0, a 0, b 0"), nil, api.OK},
		{list("a 0, b 2, a 1"), list("a 1, b 2"), api.OK},
		{append(item("a", most-1), item("a", 1)...), item("a", most), api.OK},
		{append(item("a", most), item("b", most)...), append(item("a", most), item("b", most)...), api.OK},
		{goods(16, 1), goods(16, 1), api.OK},
		{append(goods(16, 1), goods(16, 2)...), goods(16, 3), api.OK},
		{append(goods(16, 1), list("a 0")...), goods(16, 1), api.OK},
		{list("A 1"), nil, api.ErrItems},
		{list("A 0"), nil, api.ErrItems},
		{item("", 1), nil, api.ErrItems},
		{list("a -1"), nil, api.ErrItems},
		{list("a 2, a -1"), nil, api.ErrItems},
		{item("a", most+1), nil, api.ErrItems},
		{item("a", math.MaxInt), nil, api.ErrItems},
		{item("a", math.MinInt), nil, api.ErrItems},
		{append(item("a", most), item("a", 1)...), nil, api.ErrOver},
		{append(append(item("a", most), item("b", 1)...), item("a", most)...), nil, api.ErrOver},
		{append(append(item("a", most), item("a", 1)...), item("", 1)...), nil, api.ErrItems},
		{append(append(item("a", most), item("a", 1)...), item("b", -1)...), nil, api.ErrItems},
		{goods(17, 1), nil, api.ErrLong},
		{append(goods(16, 1), list("a 1")...), nil, api.ErrLong},
		{append(goods(17, most), goods(1, 1)...), nil, api.ErrOver},
		{append(goods(17, 1), item("a", -1)...), nil, api.ErrItems},
		{append(goods(17, 1), item("A", 1)...), nil, api.ErrItems},
	} {
		l, e := items.Norm(c.l)
		if !slices.Equal(l, c.want) || e != c.e {
			t.Errorf("Norm(%v) = %v, %d, not %v, %d", c.l, l, e, c.want, c.e)
		}
	}
}

// plainNorm counts what there is of each good one after the other, with numbers of any length.
func plainNorm(l []api.Item) ([]api.Item, api.Errno) {
	var names []string
	for _, x := range l {
		if len(x.Good) < 1 || len(x.Good) > 16 || strings.Trim(x.Good, "abcdefghijklmnopqrstuvwxyz0123456789-") != "" || x.N < 0 || x.N > most {
			return nil, api.ErrItems
		}
		if !slices.Contains(names, x.Good) {
			names = append(names, x.Good)
		}
	}
	slices.Sort(names)
	var norm []api.Item
	for _, name := range names {
		sum := new(big.Int)
		for _, x := range l {
			if x.Good == name {
				sum.Add(sum, big.NewInt(int64(x.N)))
			}
		}
		if sum.Cmp(big.NewInt(most)) > 0 {
			return nil, api.ErrOver
		}
		if sum.Sign() > 0 {
			norm = append(norm, api.Item{Good: name, N: int(sum.Int64())})
		}
	}
	if len(norm) > 16 {
		return nil, api.ErrLong
	}
	return norm, api.OK
}

// chance is a list of items by chance, of few goods, so that many are of one.
func chance(r *rand.Rand, many int) []api.Item {
	var l []api.Item
	for range r.Intn(many + 1) {
		n := r.Intn(4)
		if r.Intn(6) == 0 {
			n = r.Intn(most>>r.Intn(3) + 1)
		}
		l = append(l, api.Item{Good: "g" + strconv.Itoa(r.Intn(20)), N: n})
	}
	return l
}

// P6.1
func TestNormIsThePlainOne(t *testing.T) {
	r := rand.New(rand.NewSource(7))
	seen := map[api.Errno]int{}
	for range 20000 {
		l := chance(r, 60)
		if len(l) > 0 && r.Intn(8) == 0 {
			l[r.Intn(len(l))].N = -1
		}
		if len(l) > 0 && r.Intn(8) == 0 {
			l[r.Intn(len(l))].Good = "G"
		}
		norm, e := items.Norm(l)
		want, wantE := plainNorm(l)
		seen[e]++
		if !slices.Equal(norm, want) || e != wantE {
			t.Fatalf("Norm(%v) = %v, %d, not %v, %d", l, norm, e, want, wantE)
		}
		if !items.May(norm) {
			t.Fatalf("Norm(%v) = %v may not be", l, norm)
		}
		if again, e := items.Norm(norm); !slices.Equal(again, norm) || e != api.OK {
			t.Fatalf("Norm(%v) = %v, %d", norm, again, e)
		}
	}
	for _, e := range []api.Errno{api.OK, api.ErrItems, api.ErrOver, api.ErrLong} {
		if seen[e] < 100 {
			t.Error("seen:", seen)
		}
	}
}

// P6.1: whatever is in the list.
func TestOf(t *testing.T) {
	odd := append(list("b 4, a 2, b -1, A 7, b 0, c -5"), item("", 9)...)
	for good, want := range map[string]int{"a": 2, "b": 3, "c": -5, "A": 7, "": 9, "d": 0, "ab": 0, "B": 0} {
		if n := items.Of(odd, good); n != want {
			t.Errorf("Of(.., %q) = %d, not %d", good, n, want)
		}
	}
	if items.Of(nil, "a") != 0 || items.Of(nil, "") != 0 || items.Of([]api.Item{}, "a") != 0 {
		t.Error("of nothing")
	}
	round := append(item("a", math.MaxInt), list("b 8, a 2")...)
	if n := items.Of(round, "a"); n != math.MinInt+1 {
		t.Error("sums go round:", n)
	}
	if n := items.Of(goods(500, 3), "g1499"); n != 3 {
		t.Error("of the last one of many:", n)
	}
}

// P6.1: whatever is in the list.
func TestTotal(t *testing.T) {
	for _, c := range []struct {
		l    []api.Item
		want int
	}{
		{nil, 0},
		{[]api.Item{}, 0},
		{list("a 3, b 2"), 5},
		{append(list("b 4, a 2, b -1, A 7, c -5"), item("", 9)...), 16},
		{goods(16, most), 16 * most},
		{goods(500, 3), 1500},
		{append(item("a", math.MaxInt), list("b 2")...), math.MinInt + 1},
		{append(item("a", math.MinInt), list("b -1")...), math.MaxInt},
	} {
		if n := items.Total(c.l); n != c.want {
			t.Errorf("Total(%v) = %d, not %d", c.l, n, c.want)
		}
	}
}

// collect ranges till it has so many.
func collect(l func(func(string, int) bool), most int) []api.Item {
	var got []api.Item
	if most == 0 {
		return nil
	}
	for good, n := range l {
		got = append(got, api.Item{Good: good, N: n})
		if len(got) == most {
			break
		}
	}
	return got
}

// P6.1, R5: as the list stands, each time anew, and stopped anywhere.
func TestAll(t *testing.T) {
	for _, l := range append(append(mays(), mayNots()...), list("b 4, a 2, b -1, A 7, b 0")) {
		all := items.All(l)
		for stop := range len(l) + 1 {
			if got := collect(all, stop); !slices.Equal(got, l[:stop]) {
				t.Errorf("All(%v), stopped behind %d: %v", l, stop, got)
			}
		}
		for range 2 {
			if got := collect(all, -1); !slices.Equal(got, l) {
				t.Errorf("All(%v) goes over %v", l, got)
			}
		}
	}
}

// R5: within one another.
func TestAllWithinAll(t *testing.T) {
	all := items.All(list("a 1, b 2, c 3"))
	s := ""
	for good, n := range all {
		for other := range all {
			if other == good {
				s += strconv.Itoa(n) + other
				break
			}
		}
	}
	if s != "1a2b3c" {
		t.Error(s)
	}
}

// R3, R4: what All goes over is what it was given, whatever becomes of that.
func TestAllIsOfTheListThatWasHandedIn(t *testing.T) {
	l := list("a 1, b 2, c 3")
	all := items.All(l[:2])
	l[0] = api.Item{Good: "z", N: 9}
	if got := collect(all, -1); !slices.Equal(got, list("a 1, b 2")) {
		t.Error(got)
	}
	if !slices.Equal(l, list("z 9, b 2, c 3")) {
		t.Error("the list changed:", l)
	}
}
