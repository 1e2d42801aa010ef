package bins_test

import (
	"math"
	"slices"
	"testing"

	"entrepot/api"
	"entrepot/bins"
	"entrepot/lists"
)

// P27.1: the chapter's example.
func TestExample(t *testing.T) {
	f := fresh(t, api.Bin{Number: 1, Room: 5}, api.Bin{Number: 2, Room: 3})
	puts(t, f, "a", 2, "1 a 2", api.OK)
	puts(t, f, "a", 5, "1 a 3, 2 a 2", api.OK)
	has(t, "example", f, bin(1, 0, 5, "a 5"), bin(2, 0, 3, "a 2"))
}

// P27.1
func TestNew(t *testing.T) {
	for _, l := range [][]api.Bin{
		{{Number: 1, Zone: 0, Room: 1}},
		{{Number: 4096, Zone: 15, Room: most}},
		{{Number: 1, Zone: 15, Room: most}, {Number: 2, Zone: 0, Room: 1}, {Number: 4096, Zone: 7, Room: 5}},
		many(1, 63, 1),
		many(1, 64, 1),
		many(4033, 64, most),
	} {
		f, e := bins.New(l)
		if e != api.OK {
			t.Fatal(l, e)
		}
		var want []plain
		for _, b := range l {
			want = append(want, plain{Bin: b})
		}
		has(t, "new", f, want...)
	}
}

// P27.1: none, too many, each that may not be beside ones that may, and numbers that do not rise.
func TestNewRefuses(t *testing.T) {
	refused := func(l []api.Bin) {
		t.Helper()
		if f, e := bins.New(l); f != nil || e != api.ErrArg {
			t.Error(l, f, e)
		}
	}
	refused(nil)
	refused([]api.Bin{})
	refused(many(1, 65, 1))
	refused(many(1, 300, 1))
	wrong := []api.Bin{{}}
	for _, number := range noBins() {
		wrong = append(wrong, api.Bin{Number: number, Zone: 0, Room: 1})
	}
	for _, zone := range []int{-1, math.MinInt, 16, math.MaxInt} {
		wrong = append(wrong, api.Bin{Number: 5, Zone: zone, Room: 1})
	}
	for _, room := range noPieces() {
		wrong = append(wrong, api.Bin{Number: 5, Zone: 0, Room: room})
	}
	first, last := api.Bin{Number: 4, Room: 1}, api.Bin{Number: 6, Room: 1}
	for _, b := range wrong {
		refused([]api.Bin{b})
		refused([]api.Bin{b, last})
		refused([]api.Bin{first, b})
		refused([]api.Bin{first, b, last})
	}
	for _, numbers := range [][]int{{1, 1}, {2, 1}, {1, 2, 2}, {1, 3, 2}, {4096, 1}, {4096, 4096}, {1, 2, 3, 4, 1}} {
		var l []api.Bin
		for _, number := range numbers {
			l = append(l, api.Bin{Number: number, Room: 1})
		}
		refused(l)
	}
	fresh(t, first, last)
}

// P27.1: bins in which the good lies come first, by the room that they have left; then empty ones; then others; each by rising numbers.
func TestPut(t *testing.T) {
	all := []plain{
		bin(1, 0, 9, "b 1"), bin(2, 0, 9, ""), bin(3, 0, 9, "a 2"), bin(4, 0, 9, "a 3, c 1"), bin(5, 0, 5, "a 5"),
		bin(6, 0, 7, "a 1, b 1"), bin(7, 0, 1, ""), bin(8, 0, 2, "c 1"), bin(9, 0, 4, "b 4"), bin(10, 0, 3, ""),
	}
	order := []string{"4 a 5", "6 a 5", "3 a 7", "2 a 9", "7 a 1", "10 a 3", "1 a 8", "8 a 1"}
	rooms := []int{5, 5, 7, 9, 1, 3, 8, 1}
	want, n := "", 0
	for i := range order {
		// One piece alone goes into the next bin, all but one, and all that it has room for.
		n += rooms[i]
		for less := range rooms[i] {
			part := rooms[i] - less
			last := order[i][:len(order[i])-1] + string(rune('0'+part))
			puts(t, floor(t, all...), "a", n-less, want+last, api.OK)
		}
		want += order[i] + ", "
	}
	f := floor(t, all...)
	puts(t, f, "a", n+1, "", api.ErrFull)
	puts(t, f, "a", most, "", api.ErrFull)
	has(t, "refused", f, all...)
	puts(t, f, "a", n, want[:len(want)-2], api.OK)
	puts(t, f, "a", 1, "", api.ErrFull)
	has(t, "full", f,
		bin(1, 0, 9, "a 8, b 1"), bin(2, 0, 9, "a 9"), bin(3, 0, 9, "a 9"), bin(4, 0, 9, "a 8, c 1"), bin(5, 0, 5, "a 5"),
		bin(6, 0, 7, "a 6, b 1"), bin(7, 0, 1, "a 1"), bin(8, 0, 2, "a 1, c 1"), bin(9, 0, 4, "b 4"), bin(10, 0, 3, "a 3"),
	)
}

// P27.1: neither how little room an empty bin has, nor another one, nor its zone, puts it ahead.
func TestPutByNumbers(t *testing.T) {
	f := fresh(t, api.Bin{Number: 3, Zone: 9, Room: 9}, api.Bin{Number: 5, Zone: 1, Room: 1}, api.Bin{Number: 7, Zone: 0, Room: 4})
	puts(t, f, "a", 1, "3 a 1", api.OK)
	puts(t, f, "b", 1, "5 b 1", api.OK)
	puts(t, f, "c", 1, "7 c 1", api.OK)
	puts(t, f, "d", 1, "3 d 1", api.OK)
	puts(t, f, "d", 9, "3 d 7, 7 d 2", api.OK)
	has(t, "put", f, bin(3, 9, 9, "a 1, d 8"), bin(5, 1, 1, "b 1"), bin(7, 0, 4, "c 1, d 2"))
	// Of bins with the same room left the lower number comes first, however much of the good lies there.
	f = floor(t, bin(2, 0, 5, "a 3"), bin(4, 0, 9, "a 7"), bin(6, 0, 3, "a 1"))
	puts(t, f, "a", 5, "2 a 2, 4 a 2, 6 a 1", api.OK)
}

// sixteen are as many goods as lie in a bin at most: g100 to g115, one of each.
func sixteen(number, room int) plain {
	return plain{api.Bin{Number: number, Room: room}, lists.Many(0, 16, 1)}
}

// P27.1, P27.2: a bin of 16 goods takes no other one, but more of these.
func TestSixteenGoods(t *testing.T) {
	few := plain{api.Bin{Number: 2, Room: 99}, lists.Many(0, 15, 1)}
	f := floor(t, sixteen(1, 99), few)
	puts(t, f, "a", 84, "2 a 84", api.OK)
	f = floor(t, sixteen(1, 99), few)
	puts(t, f, "a", 85, "", api.ErrFull)
	puts(t, f, "g100", 3, "1 g100 3", api.OK)
	puts(t, f, "g115", 81, "1 g115 80, 2 g115 1", api.OK)
	puts(t, f, "b", 1, "", api.ErrFull)
	takes(t, f, "g107", 2, "1 g107 1, 2 g107 1", api.OK)
	puts(t, f, "b", 85, "1 b 1, 2 b 84", api.OK)

	f = floor(t, sixteen(1, 99), bin(2, 0, 99, "a 9, g100 9"))
	moves(t, f, "a", 2, 1, 1, api.ErrFull)
	moves(t, f, "g100", 2, 1, 9, api.OK)
	counts(t, f, 1, "a", 1, 0, api.ErrFull)
	counts(t, f, 1, "a", 0, 0, api.OK)
	counts(t, f, 1, "g101", 3, 2, api.OK)
	counts(t, f, 1, "g101", 0, -3, api.OK)
	moves(t, f, "a", 2, 1, 1, api.OK)
	counts(t, f, 1, "b", 1, 0, api.ErrFull)
	moves(t, f, "a", 1, 2, 1, api.OK)
	counts(t, f, 1, "b", 1, 1, api.OK)
}

// P27.2: the bin with the fewest first, of equal ones by rising numbers.
func TestTake(t *testing.T) {
	all := []plain{bin(1, 0, 9, "a 4, b 5"), bin(2, 0, 9, "a 2"), bin(3, 0, 9, "b 1"), bin(4, 0, 2, "a 2"), bin(5, 0, 99, "a 1, b 90"), bin(6, 0, 4, "a 4"), bin(7, 0, 9, "")}
	for n, want := range []string{
		1: "5 a 1", 2: "5 a 1, 2 a 1", 3: "5 a 1, 2 a 2", 4: "5 a 1, 2 a 2, 4 a 1", 5: "5 a 1, 2 a 2, 4 a 2",
		6: "5 a 1, 2 a 2, 4 a 2, 1 a 1", 9: "5 a 1, 2 a 2, 4 a 2, 1 a 4", 10: "5 a 1, 2 a 2, 4 a 2, 1 a 4, 6 a 1", 13: "5 a 1, 2 a 2, 4 a 2, 1 a 4, 6 a 4",
	} {
		if want != "" {
			takes(t, floor(t, all...), "a", n, want, api.OK)
		}
	}
	f := floor(t, all...)
	takes(t, f, "a", 14, "", api.ErrLess)
	takes(t, f, "a", most, "", api.ErrLess)
	takes(t, f, "c", 1, "", api.ErrLess)
	takes(t, f, "a", 7, "5 a 1, 2 a 2, 4 a 2, 1 a 2", api.OK)
	has(t, "taken", f, bin(1, 0, 9, "a 2, b 5"), bin(2, 0, 9, ""), bin(3, 0, 9, "b 1"), bin(4, 0, 2, ""), bin(5, 0, 99, "b 90"), bin(6, 0, 4, "a 4"), bin(7, 0, 9, ""))
	takes(t, f, "a", 7, "", api.ErrLess)
	takes(t, f, "a", 6, "1 a 2, 6 a 4", api.OK)
	takes(t, f, "a", 1, "", api.ErrLess)
}

// P27.1, P27.2: ErrItems is told whatever else is so.
func TestPutAndTakeRefuse(t *testing.T) {
	for _, f := range []*bins.Floor{fresh(t, api.Bin{Number: 1, Room: most}), floor(t, bin(1, 0, 2, "a 2"), bin(2, 0, 3, "b 3"))} {
		for _, n := range append(noPieces(), 1, 3, most) {
			for _, good := range noGoods() {
				puts(t, f, good, n, "", api.ErrItems)
				takes(t, f, good, n, "", api.ErrItems)
			}
		}
		for _, n := range noPieces() {
			for _, good := range []string{"a", "b", "c"} {
				puts(t, f, good, n, "", api.ErrItems)
				takes(t, f, good, n, "", api.ErrItems)
			}
		}
	}
}

// P27.1, P27.2: as many as may be.
func TestTheMost(t *testing.T) {
	f := fresh(t, many(1, 64, most)...)
	for i := range 64 {
		l, e := f.Put("a", most)
		if e != api.OK || !slices.Equal(l, []api.Place{{Bin: i + 1, Good: "a", N: most}}) {
			t.Fatal(i, l, e)
		}
	}
	if f.Of("a") != 64*most || f.Left(64) != 0 {
		t.Error(f.Of("a"))
	}
	puts(t, f, "a", 1, "", api.ErrFull)
	puts(t, f, "b", most, "", api.ErrFull)
	counts(t, f, 1, "a", most+1, 0, api.ErrItems)
	counts(t, f, 1, "b", most, 0, api.ErrFull)
	counts(t, f, 1, "a", 0, -most, api.OK)
	counts(t, f, 1, "a", most, most, api.OK)
	for i := range 64 {
		if l, e := f.Take("a", most); e != api.OK || !slices.Equal(l, []api.Place{{Bin: i + 1, Good: "a", N: most}}) {
			t.Fatal(i, l, e)
		}
	}
	takes(t, f, "a", 1, "", api.ErrLess)
}

// P27.1, P27.2: many bins that are equal but for their numbers.
func TestManyEqualBins(t *testing.T) {
	var all []plain
	for i := range 64 {
		all = append(all, bin(1+i, 0, 4+i%2, []string{"a 1", "a 2"}[i%2]))
	}
	var put, taken []api.Place
	for i := range 64 {
		put = append(put, api.Place{Bin: 1 + i, Good: "a", N: 3})
		taken = append(taken, api.Place{Bin: 1 + i/32 + 2*(i%32), Good: "a", N: 1 + i/32})
	}
	if l, e := floor(t, all...).Put("a", 192); e != api.OK || !slices.Equal(l, put) {
		t.Error(l, e)
	}
	if l, e := floor(t, all...).Take("a", 96); e != api.OK || !slices.Equal(l, taken) {
		t.Error(l, e)
	}
}

// P27.2
func TestMove(t *testing.T) {
	f := floor(t, bin(1, 0, 9, "a 4, b 5"), bin(2, 0, 5, "a 2"), bin(3, 0, 9, ""))
	moves(t, f, "a", 1, 2, 4, api.ErrFull)
	moves(t, f, "b", 1, 2, 4, api.ErrFull)
	moves(t, f, "a", 1, 2, 3, api.OK)
	has(t, "3 of 4", f, bin(1, 0, 9, "a 1, b 5"), bin(2, 0, 5, "a 5"), bin(3, 0, 9, ""))
	moves(t, f, "a", 1, 2, 1, api.ErrFull)
	moves(t, f, "a", 1, 3, 2, api.ErrLess)
	moves(t, f, "a", 1, 3, 1, api.OK)
	moves(t, f, "b", 1, 3, 5, api.OK)
	moves(t, f, "a", 2, 3, 3, api.OK)
	has(t, "all", f, bin(1, 0, 9, ""), bin(2, 0, 5, "a 2"), bin(3, 0, 9, "a 4, b 5"))
	moves(t, f, "a", 2, 3, 1, api.ErrFull)
	moves(t, f, "a", 3, 1, 4, api.OK)
}

// P27.2: each refusal beside all that come behind it.
func TestMoveRefuses(t *testing.T) {
	f := floor(t, bin(1, 0, 9, "a 4, b 5"), bin(3, 0, 5, "a 2, c 3"))
	for _, good := range append(noGoods(), "a", "b", "c", "z") {
		for _, n := range append(noPieces(), 1, 4, 9) {
			for _, number := range append(noBins(), 2, 4096) {
				moves(t, f, good, number, 1, n, api.ErrBin)
				moves(t, f, good, 3, number, n, api.ErrBin)
				moves(t, f, good, number, number, n, api.ErrBin)
			}
			moves(t, f, good, 1, 1, n, api.ErrBin)
			moves(t, f, good, 3, 3, n, api.ErrBin)
		}
		for _, n := range noPieces() {
			moves(t, f, good, 1, 3, n, api.ErrItems)
		}
	}
	for _, good := range noGoods() {
		moves(t, f, good, 1, 3, 1, api.ErrItems)
	}
	moves(t, f, "a", 1, 3, 5, api.ErrLess)
	moves(t, f, "a", 1, 3, most, api.ErrLess)
	moves(t, f, "z", 1, 3, 1, api.ErrLess)
	moves(t, f, "a", 3, 1, 3, api.ErrLess)
	moves(t, f, "a", 1, 3, 4, api.ErrFull)
	moves(t, f, "b", 1, 3, 1, api.ErrFull)
	has(t, "refused", f, bin(1, 0, 9, "a 4, b 5"), bin(3, 0, 5, "a 2, c 3"))
}

// P27.2
func TestCount(t *testing.T) {
	f := floor(t, bin(1, 0, 9, "a 4"), bin(2, 0, 5, ""))
	counts(t, f, 1, "a", 4, 0, api.OK)
	counts(t, f, 1, "a", 9, 5, api.OK)
	counts(t, f, 1, "a", 10, 0, api.ErrFull)
	counts(t, f, 1, "b", 1, 0, api.ErrFull)
	counts(t, f, 1, "b", 0, 0, api.OK)
	counts(t, f, 1, "a", 7, -2, api.OK)
	counts(t, f, 1, "b", 2, 2, api.OK)
	counts(t, f, 1, "b", 3, 0, api.ErrFull)
	counts(t, f, 2, "c", 5, 5, api.OK)
	has(t, "counted", f, bin(1, 0, 9, "a 7, b 2"), bin(2, 0, 5, "c 5"))
	counts(t, f, 1, "a", 0, -7, api.OK)
	counts(t, f, 2, "c", 1, -4, api.OK)
	has(t, "fewer", f, bin(1, 0, 9, "b 2"), bin(2, 0, 5, "c 1"))
	counts(t, f, 2, "c", 0, -1, api.OK)
	counts(t, f, 2, "c", 6, 0, api.ErrFull)
	counts(t, f, 2, "c", most, 0, api.ErrFull)
}

// P27.2: each refusal beside all that come behind it.
func TestCountRefuses(t *testing.T) {
	f := floor(t, bin(1, 0, 9, "a 4"), sixteen(3, 16))
	none := []int{-1, math.MinInt, most + 1, math.MaxInt}
	for _, good := range append(noGoods(), "a", "b") {
		for _, n := range append(none, 0, 1, 4, 10) {
			for _, number := range append(noBins(), 2, 4096) {
				counts(t, f, number, good, n, 0, api.ErrBin)
			}
		}
		for _, n := range none {
			counts(t, f, 1, good, n, 0, api.ErrItems)
			counts(t, f, 3, good, n, 0, api.ErrItems)
		}
	}
	for _, good := range noGoods() {
		for _, n := range []int{0, 1, 10} {
			counts(t, f, 1, good, n, 0, api.ErrItems)
			counts(t, f, 3, good, n, 0, api.ErrItems)
		}
	}
	counts(t, f, 3, "a", 1, 0, api.ErrFull)
	counts(t, f, 3, "g100", 2, 0, api.ErrFull)
	has(t, "refused", f, bin(1, 0, 9, "a 4"), sixteen(3, 16))
}

// P27.1 to P27.5
func TestNilFloor(t *testing.T) {
	var f *bins.Floor
	for _, good := range append(noGoods(), "a") {
		for _, n := range append(noPieces(), 1) {
			puts(t, f, good, n, "", api.ErrClosed)
			takes(t, f, good, n, "", api.ErrClosed)
			for _, number := range append(noBins(), 1, 2) {
				moves(t, f, good, number, 1, n, api.ErrClosed)
				moves(t, f, good, 1, number, n, api.ErrClosed)
				counts(t, f, number, good, n, 0, api.ErrClosed)
			}
		}
		if f.Of(good) != 0 {
			t.Error(f.Of(good))
		}
	}
	for _, number := range append(noBins(), 1) {
		if len(f.In(number)) != 0 || f.Left(number) != 0 {
			t.Error(number, f.In(number), f.Left(number))
		}
	}
	for b := range f.Bins() {
		t.Error(b)
	}
	l := places("1 a 3, 2 b 4")
	if len(f.Route(l)) != 0 || f.Way(l) != 0 || len(f.Pack()) != 0 {
		t.Error(f.Route(l), f.Way(l), f.Pack())
	}
}
