package parcel_test

import (
	"slices"
	"testing"

	"entrepot/api"
	"entrepot/parcel"
)

// P17.2
func TestParcel(t *testing.T) {
	p := unpacked(t, of(3, "a 9, b 4", "a 7, b 4", "a 2", 1), of(5, "c 1", "", ""))
	if x, there := p.Parcel(3); !there || !same(x, of(3, "a 9, b 4", "a 7, b 4", "a 2").Parcel) {
		t.Error(x, there)
	}
	if x, there := p.Parcel(5); !there || !same(x, of(5, "c 1", "", "").Parcel) {
		t.Error(x, there)
	}
	for _, order := range append(noOrders(), 1, 2, 4, 6, api.MaxOrder) {
		if x, there := p.Parcel(order); there || !same(x, api.Parcel{}) {
			t.Error(order, x, there)
		}
	}
}

// P17.2
func TestLeft(t *testing.T) {
	p := unpacked(t, of(1, "a 9", "", ""), of(2, "a 9, b 4", "a 7, b 4", "", 1), of(3, "a 9, b 4, c 2", "a 7, b 4, c 1", "a 2, c 1", 1), of(4, "a 9, b 4", "a 7, b 4", "a 7, b 4", 0, 7))
	for order, want := range map[int]string{0: "", 1: "", 2: "a 7, b 4", 3: "a 5, b 4", 4: "", 5: "", -1: "", api.MaxOrder: ""} {
		if l := p.Left(order); !slices.Equal(l, list(want)) {
			t.Errorf("Left(%d) = %v, not %s", order, l, want)
		}
	}
}

// P17.2, R5
func TestAll(t *testing.T) {
	p := parcel.New()
	all := p.All()
	for x := range all {
		t.Error(x)
	}
	var want []int
	for _, order := range []int{9, 3, 1 << 40, 200, 1} {
		open(t, p, order, list("a 2"), api.OK)
		want = append(want, order)
	}
	slices.Sort(want)
	for range 20 {
		var l []int
		for x := range all {
			if !same(x, of(x.Order, "a 2", "", "").Parcel) {
				t.Error(x)
			}
			l = append(l, x.Order)
		}
		if !slices.Equal(l, want) {
			t.Fatal(l)
		}
	}
	for stop := range want {
		var l []int
		for x := range all {
			l = append(l, x.Order)
			if len(l) > stop {
				break
			}
		}
		if !slices.Equal(l, want[:stop+1]) {
			t.Error("stopped:", l)
		}
	}
	// It is as the parcels are when it is ranged over.
	ship(t, p, 200, 4, list("a 1"), api.OK)
	back(t, p, 200, list("a 1"), api.OK)
	if l := slices.Collect(all); len(l) != 5 || !same(l[3], of(200, "a 2", "a 1", "a 1").Parcel) {
		t.Error(l)
	}
}

// R5: one look ahead of the first.
func TestAllLooksOnce(t *testing.T) {
	p := unpacked(t, of(1, "a 2", "", ""), of(3, "a 2", "a 1", "", 1), of(7, "a 2", "", ""))
	var seen []api.Parcel
	for x := range p.All() {
		seen = append(seen, x)
		p.Open(5, list("a 1"))
		p.Back(3, list("a 1"))
		p.Ship(7, 0, list("a 2"))
	}
	if len(seen) != 3 || !same(seen[1], of(3, "a 2", "a 1", "").Parcel) || !same(seen[2], of(7, "a 2", "", "").Parcel) {
		t.Error(seen)
	}
	has(t, "behind", p, of(1, "a 2", "", ""), of(3, "a 2", "a 1", "a 1", 1), of(5, "a 1", "", ""), of(7, "a 2", "a 2", "", 0))
}

// R3: what is handed in is not kept, nor what lies in the room behind its end changed.
func TestArgumentsAreNotKept(t *testing.T) {
	p := parcel.New()
	want, shipped, come, undone := list("a 9, b 9, z 7"), list("a 5, b 5, z 7"), list("a 3, b 3, z 7"), list("a 1, b 1, z 7")
	lists := [][]api.Item{want, shipped, come, undone}
	for _, c := range []api.Errno{p.Open(1, want[:2]), p.Ship(1, 0, shipped[:2]), p.Back(1, come[:2]), p.Undo(1, undone[:2])} {
		if c != api.OK {
			t.Fatal(c)
		}
	}
	for _, l := range lists {
		if l[2] != (api.Item{Good: "z", N: 7}) {
			t.Error("behind the end:", l)
		}
		ruin(l)
	}
	has(t, "ruined", p, of(1, "a 9, b 9", "a 5, b 5", "a 2, b 2", 0))
}

// R3: answers share nothing with what is kept, nor with one another.
func TestAnswersAreNew(t *testing.T) {
	l := []line{of(1, "a 9, b 9", "a 5, b 5", "a 2, b 2", 0), of(2, "a 9", "", "")}
	p := unpacked(t, l...)
	for range 2 {
		x, _ := p.Parcel(1)
		y, _ := p.Parcel(1)
		ruin(x.Want)
		if !slices.Equal(x.Shipped, list("a 5, b 5")) {
			t.Error(x)
		}
		ruin(x.Shipped)
		if !slices.Equal(x.Back, list("a 2, b 2")) {
			t.Error(x)
		}
		ruin(x.Back)
		if !same(y, l[0].Parcel) {
			t.Error(y)
		}
		one, two := p.Left(1), p.Left(1)
		ruin(one)
		if !slices.Equal(two, list("a 3, b 3")) {
			t.Error(two)
		}
		for x := range p.All() {
			ruin(x.Want, x.Shipped, x.Back)
		}
		b := p.Pack()
		clear(b[:cap(b)])
		has(t, "ruined", p, l...)
	}
}

// R3: a list that was answered stays as it is, whatever comes behind.
func TestAnswersStay(t *testing.T) {
	p := unpacked(t, of(1, "a 9, b 9", "a 5, b 5", "a 2, b 2", 0))
	x, _ := p.Parcel(1)
	l := p.Left(1)
	ship(t, p, 1, 3, list("a 4, b 4"), api.OK)
	back(t, p, 1, list("a 7"), api.OK)
	undo(t, p, 1, list("b 2"), api.OK)
	if !same(x, of(1, "a 9, b 9", "a 5, b 5", "a 2, b 2").Parcel) || !slices.Equal(l, list("a 3, b 3")) {
		t.Error(x, l)
	}
	has(t, "behind", p, of(1, "a 9, b 9", "a 9, b 9", "a 9", 0, 3))
}
