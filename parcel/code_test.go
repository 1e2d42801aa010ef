package parcel_test

import (
	"bytes"
	"math"
	"math/rand"
	"slices"
	"strings"
	"testing"

	"entrepot/api"
	"entrepot/parcel"
)

// P17.4: bytes that were reckoned by hand.
func TestPack(t *testing.T) {
	p := parcel.New()
	packs := func(want string) {
		t.Helper()
		if b := p.Pack(); string(b) != want {
			t.Fatalf("%q, not %q", b, want)
		}
		again, e := parcel.Unpack([]byte(want))
		if e != api.OK || string(again.Pack()) != want {
			t.Fatalf("%q, %d, not %q", again.Pack(), e, want)
		}
	}
	packs("\x00")
	open(t, p, 300, list("a 5, bc 128"), api.OK)
	packs("\x01\x82\x01\x2c\x02\x01a\x05\x02bc\x81\x80\x00\x00\x00")
	ship(t, p, 300, 7, list("a 3"), api.OK)
	packs("\x01\x82\x01\x2c\x02\x01a\x05\x02bc\x81\x80\x01\x01a\x03\x00\x01\x07")
	ship(t, p, 300, 0, nil, api.OK)
	back(t, p, 300, list("a 1"), api.OK)
	packs("\x01\x82\x01\x2c\x02\x01a\x05\x02bc\x81\x80\x01\x01a\x03\x01\x01a\x01\x02\x00\x07")
	open(t, p, 9, list("z 1"), api.OK)
	undo(t, p, 300, list("a 1"), api.OK)
	packs("\x02\x09\x01\x01z\x01\x00\x00\x00\x82\x01\x2c\x02\x01a\x05\x02bc\x81\x80\x01\x01a\x03\x00\x02\x00\x07")
}

// P17.4: parcels at the edges of what may be.
func TestUnpackAtTheEdges(t *testing.T) {
	full := goods(0, 16, most)
	for _, l := range [][]line{
		nil,
		{of(1, "a 1", "", "")},
		{of(api.MaxOrder, "a 1", "a 1", "a 1", 7)},
		{of(1, "a 1", "", "", 0), of(2, "a 1", "", "", 7), of(3, "a 2", "a 1", "", 0, 1, 2, 3, 4, 5, 6, 7)},
		{of(1, "a 1", "", "", 0, 1, 2, 3, 4, 5, 6, 7), of(api.MaxOrder-1, "a 1", "", ""), of(api.MaxOrder, "a 1", "", "")},
		{{api.Parcel{Order: 7, Want: full, Shipped: full, Back: full}, []int{3}}},
		{{api.Parcel{Order: 7, Want: full, Shipped: full}, []int{0, 7}}, {api.Parcel{Order: 8, Want: full}, nil}},
		{of(7, "a 2, b 2, c 2", "a 1, c 2", "c 1", 2, 4, 6)},
	} {
		has(t, "at the edge", unpacked(t, l...), l...)
	}
}

// many are so many small parcels.
func many(n int) []line {
	var l []line
	for i := range n {
		l = append(l, of(i+1, "a 1", "", ""))
	}
	return l
}

// P17.4: as many as may be. More are packed, though they are not unpacked.
func TestUnpackOfMany(t *testing.T) {
	for _, n := range []int{4095, 4096} {
		p, e := parcel.Unpack(code(many(n)...))
		if e != api.OK || p.Len() != n || !bytes.Equal(p.Pack(), code(many(n)...)) {
			t.Error(n, e)
		}
		if n == 4096 {
			open(t, p, 4097, list("a 1"), api.OK)
			b := p.Pack()
			if !bytes.Equal(b, code(many(4097)...)) {
				t.Error("4097 are not packed")
			}
			notUnpacked(t, "4097, packed", b)
		}
	}
	for _, n := range []int{4097, 4098, 8192, 20000} {
		notUnpacked(t, "too many", code(many(n)...))
	}
}

func notUnpacked(t *testing.T, name string, b []byte) {
	t.Helper()
	if p, e := parcel.Unpack(b); p != nil || e != api.ErrCode {
		t.Errorf("%s: Unpack of %d bytes = %v, %d", name, len(b), p, e)
	}
}

// P17.4: each thing that the chapter names, in the first parcel and in one behind.
func TestUnpackRefusesParcels(t *testing.T) {
	with := func(x line, want, shipped, back []api.Item) line {
		x.Want, x.Shipped, x.Back = want, shipped, back
		return x
	}
	wrong := map[string]line{
		"an empty Want":                    of(5, "", "", ""),
		"an empty Want, all empty":         of(5, "", "", "", 0),
		"more shipped than wanted":         of(5, "a 3", "a 4", "", 0),
		"another good shipped":             of(5, "a 3", "b 1", "", 0),
		"another good shipped beside":      of(5, "a 3", "a 1, b 1", "", 0),
		"more back than shipped":           of(5, "a 3", "a 2", "a 3", 0),
		"another good back":                of(5, "a 3, b 3", "a 2", "b 1", 0),
		"another good back beside":         of(5, "a 3, b 3", "a 2", "a 1, b 1", 0),
		"back, and nothing shipped":        of(5, "a 3", "", "a 1", 0),
		"back, and shipped from none":      of(5, "a 3", "", "a 1"),
		"shipped from no region":           of(5, "a 3", "a 1", ""),
		"all shipped from no region":       of(5, "a 3", "a 3", "a 3"),
		"a region twice":                   of(5, "a 3", "a 1", "", 2, 2),
		"regions that fall":                of(5, "a 3", "a 1", "", 2, 1),
		"regions that fall to 0":           of(5, "a 3", "a 1", "", 2, 0),
		"a region of 8":                    of(5, "a 3", "a 1", "", 8),
		"a region of 8 behind":             of(5, "a 3", "a 1", "", 7, 8),
		"a region below 0":                 of(5, "a 3", "a 1", "", -1),
		"a region far above":               of(5, "a 3", "a 1", "", math.MaxInt),
		"nine regions":                     of(5, "a 3", "a 1", "", 0, 1, 2, 3, 4, 5, 6, 7, 8),
		"nine regions, one twice":          of(5, "a 3", "a 1", "", 0, 1, 2, 3, 4, 5, 6, 7, 7),
		"a region of 8, and nothing there": of(5, "a 3", "", "", 8),
	}
	for _, order := range noOrders() {
		wrong["no order"+string(rune('a'+len(wrong)))] = of(order, "a 3", "", "")
	}
	for i, l := range mayNots() {
		name := "a list that may not be" + string(rune('a'+i))
		wrong[name+", wanted"] = with(of(5, "", "", "", 0), l, nil, nil)
		wrong[name+", shipped"] = with(of(5, "", "", "", 0), list("a 9, b 9"), l, nil)
		wrong[name+", back"] = with(of(5, "", "", "", 0), list("a 9, b 9"), list("a 9, b 9"), l)
	}
	first, last := of(2, "a 3", "a 1", "", 1), of(9, "a 3", "", "")
	for name, x := range wrong {
		notUnpacked(t, name, code(x))
		notUnpacked(t, name+", first", code(x, last))
		notUnpacked(t, name+", last", code(first, x))
		notUnpacked(t, name+", in the middle", code(first, x, last))
	}
}

// P17.4
func TestUnpackRefusesOrdersThatDoNotRise(t *testing.T) {
	for _, orders := range [][]int{{1, 1}, {2, 1}, {1, 2, 2}, {1, 3, 2}, {5, 5, 6}, {api.MaxOrder, 1}, {api.MaxOrder, api.MaxOrder}, {1, 2, 3, 4, 1}} {
		var l []line
		for _, order := range orders {
			l = append(l, of(order, "a 3", "", ""))
		}
		notUnpacked(t, "orders that do not rise", code(l...))
	}
}

// P17.4: what is cut off, goes on, or is no cell.
func TestUnpackRefusesOtherBytes(t *testing.T) {
	b := code(of(300, "a 5, bc 128", "a 3", "a 1", 0, 7), of(301, "a 5", "", ""))
	for size := range b {
		notUnpacked(t, "cut off", b[:size])
	}
	for _, more := range []string{"\x00", "\x01", "\xff", string(b), strings.Repeat("\x00", 1000)} {
		notUnpacked(t, "more behind", append(slices.Clone(b), more...))
	}
	for _, s := range []string{
		"", "\x01", "\x02", "\x90", "\x80", "\x81\x00", "\xff", "\x81\x01\x05\x01\x01a\x03\x00\x00\x00",
		"\x01\x81\x05\x01\x01a\x03\x00\x00\x00", "\x01\x05\x81\x01\x01a\x03\x00\x00\x00", "\x01\x05\x01\x01a\x03\x80\x00\x00", "\x01\x05\x01\x01a\x03\x00\x90\x00", "\x01\x05\x01\x01a\x03\x00\x00\x80", "\x01\x05\x01\x01a\x03\x00\x00\x90",
		"\x01\x05\x01\x01a\x03\x00\x00\x81\x01\x00", "\x01\x05\x01\x01a\x03\x00\x00\x01\x81\x05", "\x01\x05\x01\x01a\x03\x00\x00\x01", "\x01\x05\x01\x01a\x03\x00\x00\x88\x7f\xff\xff\xff\xff\xff\xff\xff",
		"\x88\x7f\xff\xff\xff\xff\xff\xff\xff", "\x9f", "\x01\x05\x01\x01a\x03\x00\x00\x01\x90", "\x02\x05\x01\x01a\x03\x00\x00\x00",
	} {
		notUnpacked(t, "no code", []byte(s))
	}
	notUnpacked(t, "nothing", nil)
	notUnpacked(t, "zeros", make([]byte, 1000))
	if p, e := parcel.Unpack(b[:len(b):len(b)]); e != api.OK || p.Len() != 2 {
		t.Error("the whole:", e)
	}
}

// sized are parcels whose code has just so many bytes: great ones, then small ones, and one that fits.
func sized(t *testing.T, size int) []line {
	t.Helper()
	var want []api.Item
	for i := range 16 {
		want = append(want, api.Item{Good: "abcdefghijklmno" + string(rune('a'+i)), N: 1})
	}
	great, small := line{Parcel: api.Parcel{Want: want}}, of(0, "a 1", "", "")
	var l []line
	// The number of parcels has three bytes.
	missing := size - 3
	for order := 1000; missing > 0; order++ {
		x := great
		switch {
		case missing <= 25:
			x.Want = item(strings.Repeat("a", missing-9), 1)
		case missing < 600:
			x = small
		}
		x.Order = order
		l = append(l, x)
		missing -= len(code(x)) - 1
	}
	if len(code(l...)) != size {
		t.Fatal("none is of", size)
	}
	return l
}

// P17.4: what is as long as a code may be, and what is longer.
func TestPackOfTheLongest(t *testing.T) {
	for _, size := range []int{api.MaxCode - 1, api.MaxCode} {
		l := sized(t, size)
		p := unpacked(t, l...)
		if b := p.Pack(); len(b) != size || !bytes.Equal(b, code(l...)) {
			t.Error(size, len(b))
		}
		has(t, "the longest", p, l...)
	}
	l := sized(t, api.MaxCode+1)
	notUnpacked(t, "longer", code(l...))
	p := parcel.New()
	for _, x := range l {
		if e := p.Open(x.Order, x.Want); e != api.OK {
			t.Fatal(e)
		}
	}
	if b := p.Pack(); len(b) != 0 {
		t.Error(len(b))
	}
	if p.Len() != len(l) {
		t.Error(p.Len())
	}
	open(t, p, 5000, list("a 1"), api.OK)
	if b := p.Pack(); len(b) != 0 {
		t.Error(len(b))
	}
}

// P17.4: what was too long is packed when it is shorter again.
func TestPackOfWhatIsShorterAgain(t *testing.T) {
	// A good of 16 letters has 18 bytes in a list, and a region has one.
	l := sized(t, api.MaxCode-19)
	p := unpacked(t, l...)
	order, one := l[0].Order, l[0].Want[:1]
	ship(t, p, order, 6, one, api.OK)
	l[0].Shipped, l[0].from = one, []int{6}
	has(t, "shipped", p, l...)
	back(t, p, order, one, api.OK)
	if b := p.Pack(); len(b) != 0 {
		t.Error("back:", len(b))
	}
	undo(t, p, order, one, api.OK)
	has(t, "not back", p, l...)
	ship(t, p, order, 0, nil, api.OK)
	if b := p.Pack(); len(b) != 0 {
		t.Error("from one region more:", len(b))
	}
}

// P17.4: whatever bytes: what is unpacked is packed to the same.
func TestUnpackOfChangedBytes(t *testing.T) {
	r := rand.New(rand.NewSource(17))
	whole := code(of(1, "a 5, b 3", "a 3, b 2", "a 1", 0, 3), of(3, "a 5", "", "", 2), of(5, "b 2", "b 2", "", 1, 2, 3))
	taken := 0
	for range 300000 {
		b := slices.Clone(whole)
		for range 1 + r.Intn(3) {
			b[r.Intn(len(b))] = byte(r.Intn(12))
		}
		p, e := parcel.Unpack(b)
		if e == api.ErrCode && p == nil {
			continue
		}
		taken++
		if e != api.OK || !bytes.Equal(p.Pack(), b) {
			t.Fatalf("%q: %d, %q", b, e, p.Pack())
		}
		for x := range p.All() {
			if !fair(x) {
				t.Fatalf("%q: %v", b, x)
			}
		}
	}
	if taken < 1000 {
		t.Error("taken:", taken)
	}
}

// P17.4, R3: what was packed and unpacked goes on as the first one, whatever becomes of the bytes.
func TestUnpackGoesOn(t *testing.T) {
	p := unpacked(t, of(3, "a 9, b 4", "a 7, b 4", "a 2", 1, 2), of(5, "c 1", "", ""))
	b := p.Pack()
	again, _ := parcel.Unpack(b)
	clear(b[:cap(b)])
	for _, p := range []*parcel.Parcels{p, again} {
		ship(t, p, 3, 1, list("a 2"), api.ErrTwice)
		ship(t, p, 3, 2, list("a 2"), api.ErrTwice)
		ship(t, p, 3, 3, list("a 3"), api.ErrOver)
		ship(t, p, 3, 3, list("a 2"), api.OK)
		ship(t, p, 5, 7, list("c 1"), api.OK)
		open(t, p, 5, list("c 1"), api.ErrTwice)
		open(t, p, 4, list("d 1"), api.OK)
		back(t, p, 3, list("a 7"), api.OK)
		undo(t, p, 3, list("a 1"), api.OK)
		has(t, "behind", p, of(3, "a 9, b 4", "a 9, b 4", "a 8", 1, 2, 3), of(4, "d 1", "", ""), of(5, "c 1", "c 1", "", 7))
	}
}
