package bins_test

import (
	"math"
	"math/rand"
	"slices"
	"testing"

	"entrepot/api"
	"entrepot/bins"
)

// street has bins in zones of even and of odd numbers. The way goes 2, 5; 11, 8, 3; 1, 10; 9; 4096, 4095.
func street() []plain {
	return []plain{
		bin(1, 2, 9, ""), bin(2, 0, 9, ""), bin(3, 1, 9, "a 1"), bin(5, 0, 9, ""), bin(8, 1, 9, "b 9"),
		bin(9, 3, 9, ""), bin(10, 2, 9, ""), bin(11, 1, 9, ""), bin(4095, 15, 9, ""), bin(4096, 15, 9, ""),
	}
}

func routes(t *testing.T, f *bins.Floor, l, want string, way int) {
	t.Helper()
	if r := f.Route(places(l)); !slices.Equal(r, places(want)) {
		t.Errorf("Route %s: %v, not %s", l, r, want)
	}
	if n := f.Way(places(l)); n != way {
		t.Errorf("Way %s: %d, not %d", l, n, way)
	}
}

// P27.4: reckoned by hand.
func TestRouteAndWay(t *testing.T) {
	f := floor(t, street()...)
	all := "2 a 1, 5 a 1, 11 a 1, 8 a 1, 3 a 1, 1 a 1, 10 a 1, 9 a 1, 4096 a 1, 4095 a 1"
	routes(t, f, "1 a 1, 2 a 1, 3 a 1, 5 a 1, 8 a 1, 9 a 1, 10 a 1, 11 a 1, 4095 a 1, 4096 a 1", all, 2+3+106+3+5+102+9+101+5287+1)
	routes(t, f, all, all, 5619)
	routes(t, f, "", "", 0)
	routes(t, f, "2 a 1", "2 a 1", 2)
	routes(t, f, "11 a 1", "11 a 1", 111)
	routes(t, f, "4095 a 1", "4095 a 1", 1500+4095)
	routes(t, f, "3 a 1, 1 a 1", "3 a 1, 1 a 1", 103+102)
	routes(t, f, "3 a 1, 8 a 1", "8 a 1, 3 a 1", 108+5)
	// Of the same bin by goods, which are ordered byte by byte; of the same good as they were.
	routes(t, f, "8 b 2, 8 a 9, 8 b 1, 8 aa 3, 8 - 4, 8 a 7, 8 9 5", "8 - 4, 8 9 5, 8 a 9, 8 a 7, 8 aa 3, 8 b 2, 8 b 1", 108)
	routes(t, f, "2 a 3, 5 a 1, 2 a 2, 5 a 1, 2 a 3", "2 a 3, 2 a 2, 2 a 3, 5 a 1, 5 a 1", 5)
	// What is in no bin of this floor is left out, and is not gone to.
	routes(t, f, "4 a 1, 0 a 1, -1 a 1, 4097 a 1, 2 a 1, 7 b 1, 5 a 1, 4094 c 2", "2 a 1, 5 a 1", 5)
	routes(t, f, "4 a 1", "", 0)
	// Places are of anything: the chapter asks for their bins alone.
	odd := []api.Place{{Bin: 5, Good: "B", N: -3}, {Bin: 5, Good: "", N: 0}, {Bin: 2, Good: "é", N: math.MaxInt}}
	if l := f.Route(odd); !slices.Equal(l, []api.Place{odd[2], odd[1], odd[0]}) || f.Way(odd) != 5 {
		t.Error(l)
	}
	has(t, "gone over", f, street()...)
}

// P27.4: the way is from bin 0 of zone 0, also into the farthest zone, and back to lower bins.
func TestTheFarthestWay(t *testing.T) {
	var all []api.Bin
	for zone := range 16 {
		all = append(all, api.Bin{Number: zone + 1, Zone: 15 - zone, Room: 1})
	}
	f := fresh(t, append(all, api.Bin{Number: 4096, Zone: 0, Room: 1})...)
	routes(t, f, "1 a 1", "1 a 1", 1501)
	routes(t, f, "1 a 1, 4096 a 1", "4096 a 1, 1 a 1", 4096+1500+4095)
	routes(t, f, "1 a 1, 2 a 1, 3 a 1, 16 a 1", "16 a 1, 3 a 1, 2 a 1, 1 a 1", 16+1313+101+101)
}

// plainRoute goes through zones and bins one after the other, and picks up what is there.
func plainRoute(all []plain, l []api.Place) []api.Place {
	var route []api.Place
	for zone := range 16 {
		for i := range 4097 {
			number := i
			if zone%2 == 1 {
				number = 4096 - i
			}
			if !slices.ContainsFunc(all, func(x plain) bool { return x.Number == number && x.Zone == zone }) {
				continue
			}
			for _, good := range []string{"a", "b", "c"} {
				for _, p := range l {
					if p.Bin == number && p.Good == good {
						route = append(route, p)
					}
				}
			}
		}
	}
	return route
}

// walk is how far it is along places, zone by zone and bin by bin.
func walk(zones map[int]int, l []api.Place) int {
	way, zone, number := 0, 0, 0
	for _, p := range l {
		for ; zone < zones[p.Bin]; zone++ {
			way += 100
		}
		for ; zone > zones[p.Bin]; zone-- {
			way += 100
		}
		for ; number < p.Bin; number++ {
			way++
		}
		for ; number > p.Bin; number-- {
			way++
		}
	}
	return way
}

// P27.4, P27.6: any floor, any places, in any order.
func TestRouteBesideAPlainOne(t *testing.T) {
	r := rand.New(rand.NewSource(274))
	for range 150 {
		var all []plain
		zones := map[int]int{}
		for number := 1 + r.Intn(40); number <= 4096 && len(all) < 64; number += 1 + r.Intn(120) {
			x := bin(number, r.Intn(4)*r.Intn(6), 9, "")
			all, zones[number] = append(all, x), x.Zone
		}
		f := floor(t, all...)
		var l []api.Place
		for range r.Intn(300) {
			number := r.Intn(4100)
			if r.Intn(4) > 0 {
				number = all[r.Intn(len(all))].Number
			}
			l = append(l, api.Place{Bin: number, Good: "abc"[r.Intn(3):][:1], N: r.Intn(99)})
		}
		want := plainRoute(all, l)
		if route := f.Route(l); !slices.Equal(route, want) {
			t.Fatal(l, route, want)
		}
		if way := f.Way(l); way != walk(zones, want) {
			t.Fatal(l, way, walk(zones, want))
		}
	}
}
