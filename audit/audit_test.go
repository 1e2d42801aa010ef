package audit_test

import (
	"cmp"
	"math"
	"math/big"
	"math/rand"
	"reflect"
	"slices"
	"testing"
	"unsafe"

	"entrepot/api"
	"entrepot/asks"
	"entrepot/audit"
	"entrepot/cells"
	"entrepot/desk"
	"entrepot/lists"
	"entrepot/parcel"
	"entrepot/region"
)

// P26.2: of a nil World true of all but Quiet; nothing.
func TestNoWorld(t *testing.T) {
	for name, is := range audits() {
		if is(nil) != (name != "quiet") {
			t.Error(name)
		}
	}
	if l := audit.Shelves(nil); len(l) != 0 {
		t.Error(l)
	}
}

// P26.1, P26.2: of worlds to which nothing happened yet.
func TestNewWorlds(t *testing.T) {
	for regions := 1; regions <= 8; regions++ {
		b := begin(t, regions, 64)
		b.but()
		if l := audit.Shelves(b.World); len(l) != regions || slices.Contains(l, nil) {
			t.Error(regions, l)
		}
		for i := range regions {
			b.crash(i)
			b.but("quiet")
		}
		if l := audit.Shelves(b.World); len(l) != 0 {
			t.Error(regions, l)
		}
	}
}

// P26.1: the stocks of all that are there, by rising regions.
func TestShelves(t *testing.T) {
	b := begin(t, 4, 64)
	want := make([]string, 4)
	for i := range 4 {
		b.tells(asks.Receive(0, i+1, i, []string{"a 1", "a 2", "b 3", "c 4"}[i]))
	}
	b.rest()
	for i := range 4 {
		want[i] = string(b.Node(i).Region().Shelf().Pack())
	}
	if got := packs(audit.Shelves(b.World)); !slices.Equal(got, want) || len(slices.Compact(want)) < 4 {
		t.Errorf("%q, not %q", got, want)
	}
	for _, down := range []int{2, 0, 3, 1} {
		b.crash(down)
		want[down] = ""
		left := slices.DeleteFunc(slices.Clone(want), func(s string) bool { return s == "" })
		if got := packs(audit.Shelves(b.World)); !slices.Equal(got, left) {
			t.Errorf("%q, not %q", got, left)
		}
	}
}

// R3: shelves are others that are the same; a world is as it was behind all audits.
func TestNothingIsChanged(t *testing.T) {
	b := begin(t, 2, 64)
	b.done(asks.Receive(0, 1, 0, "a 5"))
	b.done(asks.Order(1, 2, "a 3", 0))
	b.tells(asks.Order(1, 3, "a 3", 0))
	before := [2]string{string(b.Node(0).State()), string(b.Node(1).State())}
	l := audit.Shelves(b.World)
	for _, s := range l {
		if e := s.Do(api.DoReceive, lists.Of("z 9")); e != api.OK {
			t.Fatal(e)
		}
	}
	clear(l)
	b.but("quiet")
	if behind := [2]string{string(b.Node(0).State()), string(b.Node(1).State())}; behind != before || b.Way() != 1 || b.Node(0).Region().Shelf().Level("z").Free != 0 {
		t.Error("changed")
	}
}

// P26.1: one region that is not sound is enough, wherever it is. (All that a call made are sound; one that no call made has no shelf.)
func TestSound(t *testing.T) {
	for i := range 3 {
		b := begin(t, 3, 64)
		*b.Node(i).Region() = region.Region{}
		if audit.Sound(b.World) {
			t.Error(i)
		}
		b.but("sound")
		b.crash((i + 1) % 3)
		b.but("sound", "quiet")
		b.crash(i)
		b.but("quiet")
	}
}

// sagas are those that a desk keeps, themselves: no call lets one in that may not be.
func sagas(d *desk.Desk) map[int]api.Saga {
	field := reflect.ValueOf(d).Elem().FieldByName("sagas")
	return *(*map[int]api.Saga)(unsafe.Pointer(field.UnsafeAddr()))
}

// P26.1: one saga that may not be, or has no parcel, is enough, wherever it is.
func TestSoundOfSagas(t *testing.T) {
	for i := range 3 {
		for _, last := range []int{64 + i, 128 + i, 192 + i} {
			b := begin(t, 3, 256)
			for n := 1; n <= 3; n++ {
				b.tells(asks.Order(i, n, "a 5", 1))
			}
			b.rest()
			b.but()
			l := sagas(b.Node(i).Desk())
			s := l[last]
			delete(l, last)
			// It is another order's now, for which there is no parcel.
			s.Order += 640
			l[s.Order] = s
			b.but("sound")
			delete(l, s.Order)
			s.Order = last
			l[last] = s
			b.but()
			s.Cancelled = true
			l[last] = s
			b.but("sound")
			b.crash(i)
			b.but("quiet")
		}
	}
}

// forge puts another desk in the place of region i's: one that has of these orders parcels of which so much was shipped, there. It goes on all the same.
func (b *bench) forge(i int, shipped map[int]string) {
	b.t.Helper()
	d := b.Node(i).Desk()
	p := parcel.New()
	for s := range d.Sagas() {
		e := cmp.Or(p.Open(s.Order, s.Want), p.Ship(s.Order, i, lists.Of(shipped[s.Order])))
		if e != api.OK {
			b.t.Fatal(s, e)
		}
	}
	saved, _ := cells.Split(d.Save())
	saved[2] = p.Pack()
	other, e := desk.Load(cells.Join(saved...), i, b.Regions())
	if e != api.OK {
		b.t.Fatal(e)
	}
	*d = *other
}

// P26.1: of each order that is shipped all that is wanted was shipped; of others not more.
func TestParcels(t *testing.T) {
	for _, c := range []struct {
		shipped map[int]string
		want    bool
	}{
		{map[int]string{65: "a 5, b 2", 129: "a 5, b 2"}, true},
		{map[int]string{65: "a 5, b 2", 129: "a 5, b 2", 193: "b 2"}, true},
		{map[int]string{65: "a 5, b 2", 129: "a 5, b 2", 193: "a 5, b 2"}, true},
		{map[int]string{65: "a 5, b 1", 129: "a 5, b 2"}, false},
		{map[int]string{65: "a 5, b 2", 129: "b 2"}, false},
		{map[int]string{65: "a 4, b 2", 129: "a 5", 193: "a 5, b 2"}, false},
		{map[int]string{129: "a 5, b 2"}, false},
	} {
		b := begin(t, 3, 512)
		b.done(asks.Receive(1, 10, 1, "a 20, b 20"))
		for n := 1; n <= 3; n++ {
			b.done(asks.Order(1, n, "a 5, b 2", 0))
			b.done(asks.About(api.AskPick, 1, 10+n, 64*n+1))
		}
		b.done(asks.About(api.AskShip, 1, 21, 65))
		b.done(asks.About(api.AskShip, 1, 22, 129))
		b.but()
		b.forge(1, c.shipped)
		if audit.Parcels(b.World) != c.want {
			t.Error(c)
		}
		if c.want {
			b.but()
			continue
		}
		b.but("parcels")
		b.crash(0)
		b.but("parcels", "quiet")
		b.crash(1)
		b.but("quiet")
	}
}

// P26.2: the chapter's example, and the edges.
func TestBound(t *testing.T) {
	for _, c := range []struct{ regions, sagas, want int }{
		{3, 1, 160}, {0, 0, 60}, {1, 0, 80}, {0, 1, 100}, {8, 0, 220}, {8, 1024, 41180}, {2, 7, 380},
		{-1, 5, 260}, {5, -1, 160}, {-1, -1, 60}, {math.MinInt, 1, 100}, {1, math.MinInt, 80}, {math.MinInt, math.MinInt, 60},
		{math.MaxInt, 0, math.MaxInt}, {0, math.MaxInt, math.MaxInt}, {math.MaxInt, math.MaxInt, math.MaxInt},
		{math.MaxInt, -1, math.MaxInt}, {math.MinInt, math.MaxInt, math.MaxInt},
	} {
		if n := audit.Bound(c.regions, c.sagas); n != c.want {
			t.Errorf("%d, %d: %d, not %d", c.regions, c.sagas, n, c.want)
		}
	}
}

// P26.2: as numbers without end say it, the greatest int where that is none.
func TestBoundByChance(t *testing.T) {
	most := big.NewInt(math.MaxInt)
	around := func(n int) []int { return []int{n - 2, n - 1, n, n + 1, n + 2} }
	r := rand.New(rand.NewSource(26))
	for range 3000 {
		regions, sagas := int(r.Uint64())>>r.Intn(63), int(r.Uint64())>>r.Intn(63)
		if r.Intn(2) == 0 {
			// Both together about as much as an int has.
			regions = r.Intn(math.MaxInt / 20)
			sagas = (math.MaxInt - 60 - 20*regions) / 40
		}
		for _, x := range around(regions) {
			for _, y := range around(sagas) {
				n := new(big.Int).Mul(big.NewInt(20), big.NewInt(int64(max(x, 0))))
				n.Add(n, new(big.Int).Mul(big.NewInt(40), big.NewInt(int64(max(y, 0)))))
				n.Add(n, big.NewInt(60))
				if n.Cmp(most) > 0 {
					n = most
				}
				if got := audit.Bound(x, y); int64(got) != n.Int64() {
					t.Fatalf("%d, %d: %d, not %v", x, y, got, n)
				}
			}
		}
	}
	for _, x := range around((math.MaxInt - 60) / 20) {
		want := math.MaxInt
		if x <= (math.MaxInt-60)/20 {
			want = 60 + 20*x
		}
		if got := audit.Bound(x, 0); got != want {
			t.Error(x, got, want)
		}
	}
}
