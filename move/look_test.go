package move_test

import (
	"slices"
	"testing"

	"entrepot/api"
	"entrepot/move"
)

// P19.2
func TestMove(t *testing.T) {
	m := unpacked(t, under(3, 1, 7, "a 9, b 4"), came(5, 7, 0, "c 1"))
	if w, known := m.Move(3); !known || !same(w, under(3, 1, 7, "a 9, b 4")) {
		t.Error(w, known)
	}
	if w, known := m.Move(5); !known || !same(w, came(5, 7, 0, "c 1")) {
		t.Error(w, known)
	}
	for _, number := range append(noMoves(), 1, 2, 4, 6, api.MaxOrder) {
		if w, known := m.Move(number); known || !same(w, api.Way{}) {
			t.Error(number, w, known)
		}
	}
}

// asked looks what is under way from one region to another.
func asked(t *testing.T, m *move.Moves, from, to int, want []api.Item) {
	t.Helper()
	if l := m.Under(from, to); !slices.Equal(l, want) {
		t.Errorf("Under(%d, %d) = %v, not %v", from, to, l, want)
	}
}

// P19.2: between any two regions, and between such as there are not.
func TestUnder(t *testing.T) {
	m := unpacked(t, under(1, 0, 2, "b 4"), under(2, 0, 2, "a 1, b 3"), under(3, 2, 0, "a 7"), came(4, 0, 2, "a 100"), under(5, 0, 3, "c 2"),
		under(6, 1, 2, "d 6"), under(7, 0, 2, "a 2, z 9"), came(8, 7, 6, "a 1"), under(9, 6, 7, "e 1"))
	want := map[[2]int]string{{0, 2}: "a 3, b 7, z 9", {2, 0}: "a 7", {0, 3}: "c 2", {1, 2}: "d 6", {6, 7}: "e 1"}
	for from := -1; from <= 8; from++ {
		for to := -1; to <= 8; to++ {
			asked(t, m, from, to, list(want[[2]int{from, to}]))
		}
	}
	for _, way := range noWays() {
		asked(t, m, way[0], way[1], nil)
	}
	comes(t, m, 2, list("a 1, b 3"), api.OK)
	asked(t, m, 0, 2, list("a 2, b 4, z 9"))
	forgets(t, m, 2, api.OK)
	asked(t, m, 0, 2, list("a 2, b 4, z 9"))
	comes(t, m, 7, list("a 2, z 9"), api.OK)
	comes(t, m, 1, list("b 4"), api.OK)
	asked(t, m, 0, 2, nil)
	asked(t, m, 2, 0, list("a 7"))
}

// P19.2: up to the first move with which a sum would be no count. None that comes behind is counted, though there would be room.
func TestUnderOfTheMost(t *testing.T) {
	m := move.New()
	goes(t, m, 30, 4, 5, item("a", most-3), api.OK)
	asked(t, m, 4, 5, item("a", most-3))
	goes(t, m, 40, 4, 5, list("a 3, b 1"), api.OK)
	asked(t, m, 4, 5, []api.Item{{Good: "a", N: most}, {Good: "b", N: 1}})
	// This one is not counted, nor one behind it, though both are on their way.
	goes(t, m, 50, 4, 5, list("a 1, c 1"), api.OK)
	goes(t, m, 60, 4, 5, list("d 1"), api.OK)
	asked(t, m, 4, 5, []api.Item{{Good: "a", N: most}, {Good: "b", N: 1}})
	// Those between others do not matter.
	goes(t, m, 10, 5, 4, list("a 1"), api.OK)
	goes(t, m, 35, 4, 6, item("a", most), api.OK)
	asked(t, m, 4, 5, []api.Item{{Good: "a", N: most}, {Good: "b", N: 1}})
	// One that comes ahead leaves no room for those behind.
	goes(t, m, 20, 4, 5, list("a 1"), api.OK)
	asked(t, m, 4, 5, item("a", most-2))
	goes(t, m, 15, 4, 5, item("a", most), api.OK)
	asked(t, m, 4, 5, item("a", most))
	goes(t, m, 12, 4, 5, list("e 1, f 2"), api.OK)
	asked(t, m, 4, 5, []api.Item{{Good: "a", N: most}, {Good: "e", N: 1}, {Good: "f", N: 2}})
	// What came is not counted.
	comes(t, m, 15, item("a", most), api.OK)
	asked(t, m, 4, 5, []api.Item{{Good: "a", N: most - 2}, {Good: "e", N: 1}, {Good: "f", N: 2}})
	comes(t, m, 40, list("a 3, b 1"), api.OK)
	asked(t, m, 4, 5, []api.Item{{Good: "a", N: most - 1}, {Good: "c", N: 1}, {Good: "d", N: 1}, {Good: "e", N: 1}, {Good: "f", N: 2}})
}

// P19.2: up to the first move with which there would be more than 16 goods.
func TestUnderOfManyGoods(t *testing.T) {
	m := move.New()
	goes(t, m, 1, 4, 5, goods(0, 10, 2), api.OK)
	goes(t, m, 2, 4, 5, goods(5, 11, 3), api.OK)
	all := slices.Concat(goods(0, 5, 2), goods(5, 5, 5), goods(10, 6, 3))
	asked(t, m, 4, 5, all)
	goes(t, m, 3, 4, 5, goods(16, 1, 1), api.OK)
	goes(t, m, 4, 4, 5, goods(0, 1, 1), api.OK)
	goes(t, m, 5, 4, 5, goods(15, 2, 1), api.OK)
	asked(t, m, 4, 5, all)
	comes(t, m, 3, goods(16, 1, 1), api.OK)
	all[0].N = 3
	asked(t, m, 4, 5, all)
	comes(t, m, 1, goods(0, 10, 2), api.OK)
	asked(t, m, 4, 5, slices.Concat(goods(0, 1, 1), goods(5, 10, 3), goods(15, 1, 4), goods(16, 1, 1)))
}

// P19.2: as many moves as there may be, between the same two.
func TestUnderOfAll(t *testing.T) {
	m := move.New()
	for i := range 256 {
		goes(t, m, 1000-i, 3, 1, list("a 2, b 1"), api.OK)
	}
	asked(t, m, 3, 1, list("a 512, b 256"))
	asked(t, m, 1, 3, nil)
}

// P19.2, R5
func TestAll(t *testing.T) {
	m := move.New()
	all := m.All()
	for w := range all {
		t.Error(w)
	}
	var want []int
	for i, number := range []int{9, 3, 1 << 40, 200, 1} {
		goes(t, m, number, i, i+1, list("a 2"), api.OK)
		want = append(want, number)
	}
	slices.Sort(want)
	numbers := func(most int) []int {
		var l []int
		for w := range all {
			l = append(l, w.Move)
			if len(l) == most {
				break
			}
		}
		return l
	}
	for range 20 {
		if l := numbers(9); !slices.Equal(l, want) {
			t.Fatal(l)
		}
	}
	for stop := range want {
		if l := numbers(stop + 1); !slices.Equal(l, want[:stop+1]) {
			t.Error("stopped:", l)
		}
	}
	// It is as the moves are when it is ranged over.
	comes(t, m, 200, list("a 2"), api.OK)
	comes(t, m, 3, list("a 2"), api.OK)
	forgets(t, m, 3, api.OK)
	if l := slices.Collect(all); len(l) != 4 || !same(l[0], under(1, 4, 5, "a 2")) || !same(l[2], came(200, 3, 4, "a 2")) {
		t.Error(l)
	}
	if m.Len() != 4 {
		t.Error(m.Len())
	}
}

// R5: one look ahead of the first.
func TestAllLooksOnce(t *testing.T) {
	m := unpacked(t, under(1, 0, 1, "a 2"), under(3, 0, 1, "b 2"), came(7, 0, 1, "c 2"))
	var seen []api.Way
	for w := range m.All() {
		seen = append(seen, w)
		m.Go(5, 0, 1, list("a 1"))
		m.Come(3)
		m.Forget(7)
	}
	if !slices.EqualFunc(seen, []api.Way{under(1, 0, 1, "a 2"), under(3, 0, 1, "b 2"), came(7, 0, 1, "c 2")}, same) {
		t.Error(seen)
	}
	has(t, "behind", m, under(1, 0, 1, "a 2"), came(3, 0, 1, "b 2"), under(5, 0, 1, "a 1"))
}

// R3: what is handed in is not kept, nor what lies in the room behind its end changed.
func TestArgumentsAreNotKept(t *testing.T) {
	m := move.New()
	l := list("a 9, b 8, z 7")
	goes(t, m, 1, 0, 1, l[:2], api.OK)
	if !slices.Equal(l, list("a 9, b 8, z 7")) {
		t.Error("behind the end:", l)
	}
	ruin(l)
	has(t, "ruined", m, under(1, 0, 1, "a 9, b 8"))
	b := code(under(1, 0, 1, "a 9, b 8"))
	again, _ := move.Unpack(b)
	clear(b)
	has(t, "ruined", again, under(1, 0, 1, "a 9, b 8"))
}

// R3: answers share nothing with what is kept, nor with one another.
func TestAnswersAreNew(t *testing.T) {
	l := []api.Way{came(1, 0, 1, "a 9, b 8"), under(2, 0, 1, "c 3"), under(3, 1, 2, "d 4")}
	m := unpacked(t, under(1, 0, 1, "a 9, b 8"), l[1], l[2])
	come, _ := m.Come(1)
	ruin(come)
	has(t, "come", m, l...)
	for range 2 {
		for number, w := range l {
			x, _ := m.Move(number + 1)
			y, _ := m.Move(number + 1)
			ruin(x.Items)
			if !same(y, w) {
				t.Error(y)
			}
			ruin(m.Under(w.From, w.To))
		}
		for w := range m.All() {
			ruin(w.Items)
		}
		all := slices.Collect(m.All())
		ruin(all[0].Items)
		if !same(all[1], l[1]) || !same(all[2], l[2]) {
			t.Error(all)
		}
		b := m.Pack()
		clear(b[:cap(b)])
		has(t, "ruined", m, l...)
	}
}

// R3: what was answered stays as it is, whatever comes behind.
func TestAnswersStay(t *testing.T) {
	m := unpacked(t, under(1, 0, 1, "a 9, b 8"), under(2, 0, 1, "a 1"))
	w, _ := m.Move(1)
	l := m.Under(0, 1)
	come, _ := m.Come(1)
	forgets(t, m, 1, api.OK)
	goes(t, m, 1, 0, 1, list("z 7, zz 7"), api.OK)
	if !same(w, under(1, 0, 1, "a 9, b 8")) || !slices.Equal(l, list("a 10, b 8")) || !slices.Equal(come, list("a 9, b 8")) {
		t.Error(w, l, come)
	}
	has(t, "behind", m, under(1, 0, 1, "z 7, zz 7"), under(2, 0, 1, "a 1"))
}
