package bins_test

import (
	"slices"
	"testing"

	"entrepot/api"
	"entrepot/bins"
	"entrepot/lists"
)

// P27.3
func TestLooks(t *testing.T) {
	f := floor(t, bin(1, 3, 9, "a 4, b 5"), bin(7, 0, 50, "a 2"), bin(4096, 15, 3, ""))
	for good, n := range map[string]int{"a": 6, "b": 5, "c": 0, "": 0, "A": 0} {
		if f.Of(good) != n {
			t.Error(good, f.Of(good))
		}
	}
	for number, in := range map[int]string{1: "a 4, b 5", 7: "a 2", 4096: "", 2: "", 0: "", -1: "", 4097: ""} {
		if l := f.In(number); !slices.Equal(l, lists.Of(in)) {
			t.Error(number, l)
		}
	}
	for number, left := range map[int]int{1: 0, 7: 48, 4096: 3, 2: 0, 0: 0, -1: 0, 4097: 0} {
		if n := f.Left(number); n != left {
			t.Error(number, n)
		}
	}
	if l := slices.Collect(f.Bins()); !slices.Equal(l, []api.Bin{{Number: 1, Zone: 3, Room: 9}, {Number: 7, Zone: 0, Room: 50}, {Number: 4096, Zone: 15, Room: 3}}) {
		t.Error(l)
	}
}

// P27.3, R5: it begins anew, and may be stopped.
func TestBins(t *testing.T) {
	want := many(20, 30, 5)
	all := fresh(t, want...).Bins()
	for range 20 {
		if l := slices.Collect(all); !slices.Equal(l, want) {
			t.Fatal(l)
		}
	}
	for stop := range want {
		var l []api.Bin
		for b := range all {
			l = append(l, b)
			if len(l) > stop {
				break
			}
		}
		if !slices.Equal(l, want[:stop+1]) {
			t.Error("stopped:", l)
		}
	}
}

// R3: what is handed in is not kept, nor changed, nor what lies behind its end.
func TestArgumentsAreNotKept(t *testing.T) {
	l := append(many(1, 3, 9), api.Bin{Number: 99, Room: 1})
	f := fresh(t, l[:2]...)
	if !slices.Equal(l, append(many(1, 3, 9), api.Bin{Number: 99, Room: 1})) {
		t.Error(l)
	}
	clear(l)
	has(t, "cleared", f, bin(1, 0, 9, ""), bin(2, 1, 9, ""))

	b := code(bin(1, 0, 9, "a 3, b 4"))
	f, _ = bins.Unpack(b)
	if !slices.Equal(b, code(bin(1, 0, 9, "a 3, b 4"))) {
		t.Error(b)
	}
	clear(b)
	has(t, "cleared", f, bin(1, 0, 9, "a 3, b 4"))

	way := places("2 a 1, 1 a 1, 9 a 1, 1 a 2")
	kept := slices.Clone(way)
	f.Route(way[:3])
	f.Way(way[:2])
	if !slices.Equal(way, kept) {
		t.Error(way)
	}
}

// ruin writes over a list, its spare room too.
func ruin[T any](l []T, with T) {
	l = l[:cap(l)]
	for i := range l {
		l[i] = with
	}
}

// R3: answers share nothing with what is kept, nor with one another.
func TestAnswersAreNew(t *testing.T) {
	f := floor(t, bin(1, 0, 9, "a 3, b 4"), bin(2, 0, 9, "a 1"))
	l := []plain{bin(1, 0, 9, "a 4, b 4"), bin(2, 0, 9, "a 2")}
	put, _ := f.Put("a", 3)
	taken, _ := f.Take("a", 1)
	ruin(put, api.Place{Bin: 1, Good: "ruin", N: 7})
	if !slices.Equal(taken, places("2 a 1")) {
		t.Error(taken)
	}
	ruin(taken, api.Place{Bin: 1, Good: "ruin", N: 7})
	f.Count(1, "a", 4)
	f.Count(2, "a", 2)
	for range 2 {
		one, two := f.In(1), f.In(1)
		ruin(one, api.Item{Good: "ruin", N: 7})
		if !slices.Equal(two, l[0].in) {
			t.Error(two)
		}
		b := f.Pack()
		ruin(b, 7)
		has(t, "ruined", f, l...)
	}
	way := places("2 a 1, 1 a 1")
	ruin(f.Route(way), api.Place{Bin: 1, Good: "ruin", N: 7})
	if !slices.Equal(way, places("2 a 1, 1 a 1")) {
		t.Error(way)
	}
}

// R3: a list that was answered stays as it is, whatever comes behind.
func TestAnswersStay(t *testing.T) {
	f := floor(t, bin(1, 0, 9, "a 3, b 4"), bin(2, 0, 9, ""))
	in := f.In(1)
	f.Put("a", 2)
	f.Take("b", 3)
	f.Move("a", 1, 2, 2)
	f.Count(1, "c", 1)
	if !slices.Equal(in, lists.Of("a 3, b 4")) {
		t.Error(in)
	}
	has(t, "behind", f, bin(1, 0, 9, "a 3, b 1, c 1"), bin(2, 0, 9, "a 2"))
}

// R4: two floors of the same bins have nothing to do with one another.
func TestFloorsAreTheirOwn(t *testing.T) {
	l := many(1, 2, 9)
	f, g := fresh(t, l...), fresh(t, l...)
	f.Put("a", 5)
	has(t, "the other", g, bin(1, 0, 9, ""), bin(2, 1, 9, ""))
	again, _ := bins.Unpack(f.Pack())
	f.Take("a", 2)
	has(t, "again", again, bin(1, 0, 9, "a 5"), bin(2, 1, 9, ""))
}
