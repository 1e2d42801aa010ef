package parcel_test

import (
	"bytes"
	"slices"
	"testing"

	"entrepot/api"
	"entrepot/cells"
	"entrepot/items"
	"entrepot/lists"
	"entrepot/parcel"
)

const most = api.MaxCount

func list(s string) []api.Item {
	return lists.Of(s)
}

func item(good string, n int) []api.Item {
	return []api.Item{{Good: good, N: n}}
}

func goods(from, many, n int) []api.Item {
	return lists.Many(from, many, n)
}

// line is a parcel, and the regions from which it was shipped.
type line struct {
	api.Parcel
	from []int
}

// of is a line by its lists, written as list has them.
func of(order int, want, shipped, back string, from ...int) line {
	return line{api.Parcel{Order: order, Want: list(want), Shipped: list(shipped), Back: list(back)}, from}
}

// code is put down as the chapter tells it, of whatever lines, however long.
func code(l ...line) []byte {
	b := cells.Num(len(l))
	for _, x := range l {
		b = append(b, cells.Num(x.Order)...)
		for _, part := range [][]api.Item{x.Want, x.Shipped, x.Back} {
			b = append(b, cells.Num(len(part))...)
			for _, i := range part {
				b = append(append(b, cells.Num(len(i.Good))...), i.Good...)
				b = append(b, cells.Num(i.N)...)
			}
		}
		b = append(b, cells.Num(len(x.from))...)
		for _, region := range x.from {
			b = append(b, cells.Num(region)...)
		}
	}
	return b
}

// unpacked is parcels that are just these.
func unpacked(t *testing.T, l ...line) *parcel.Parcels {
	t.Helper()
	p, e := parcel.Unpack(code(l...))
	if e != api.OK || p == nil {
		t.Fatal("Unpack:", l, e)
	}
	return p
}

func same(a, b api.Parcel) bool {
	return a.Order == b.Order && slices.Equal(a.Want, b.Want) && slices.Equal(a.Shipped, b.Shipped) && slices.Equal(a.Back, b.Back)
}

// left is what of a parcel was shipped and is not back.
func left(x api.Parcel) []api.Item {
	var l []api.Item
	for _, i := range x.Shipped {
		if n := i.N - items.Of(x.Back, i.Good); n > 0 {
			l = append(l, api.Item{Good: i.Good, N: n})
		}
	}
	return l
}

// is looks whether parcels are just these, by all calls that change nothing.
func is(p *parcel.Parcels, l ...line) bool {
	var all []api.Parcel
	for x := range p.All() {
		all = append(all, x)
	}
	for _, x := range l {
		if y, there := p.Parcel(x.Order); !there || !same(x.Parcel, y) || !slices.Equal(p.Left(x.Order), left(x.Parcel)) {
			return false
		}
	}
	return p.Len() == len(l) && slices.EqualFunc(l, all, func(x line, y api.Parcel) bool { return same(x.Parcel, y) }) && bytes.Equal(p.Pack(), code(l...))
}

func has(t *testing.T, name string, p *parcel.Parcels, l ...line) {
	t.Helper()
	if !is(p, l...) {
		t.Fatalf("%s: %d, %v, %q, not %v", name, p.Len(), slices.Collect(p.All()), p.Pack(), l)
	}
}

func open(t *testing.T, p *parcel.Parcels, order int, want []api.Item, e api.Errno) {
	t.Helper()
	told(t, p, e, p.Open, order, want)
}

func ship(t *testing.T, p *parcel.Parcels, order, region int, l []api.Item, e api.Errno) {
	t.Helper()
	told(t, p, e, func(order int, l []api.Item) api.Errno { return p.Ship(order, region, l) }, order, l)
}

func back(t *testing.T, p *parcel.Parcels, order int, l []api.Item, e api.Errno) {
	t.Helper()
	told(t, p, e, p.Back, order, l)
}

func undo(t *testing.T, p *parcel.Parcels, order int, l []api.Item, e api.Errno) {
	t.Helper()
	told(t, p, e, p.Undo, order, l)
}

// told looks what a call answers, that what is refused changes nothing, and that what is handed in stays as it is.
func told(t *testing.T, p *parcel.Parcels, e api.Errno, call func(int, []api.Item) api.Errno, order int, l []api.Item) {
	t.Helper()
	before, args := p.Pack(), slices.Clone(l)
	if got := call(order, l); got != e {
		t.Fatalf("%d, %v: %d, not %d", order, l, got, e)
	}
	if e != api.OK && !bytes.Equal(p.Pack(), before) {
		t.Fatalf("%d, %v: %d changed something", order, l, e)
	}
	if !slices.Equal(l, args) {
		t.Fatalf("%v was changed: %v", args, l)
	}
}

// mayNots are lists that may not be.
func mayNots() [][]api.Item {
	return [][]api.Item{
		list("a 0"), list("a -1"), list("b 1, a 1"), list("a 1, a 1"), list("A 1"), item("", 1), item("abcdefghijklmnopq", 1),
		item("a", most+1), goods(0, 17, 1), list("a 1, b 0"), {{}},
	}
}

// noOrders are numbers that no order has.
func noOrders() []int {
	return []int{0, -1, -1 << 63, api.MaxOrder + 1, 1<<63 - 1}
}

// noRegions are numbers that no region has.
func noRegions() []int {
	return []int{-1, -1 << 63, 8, 9, 64, 256, 1<<63 - 1}
}

// ruin writes over lists, their spare room too.
func ruin(lists ...[]api.Item) {
	for _, l := range lists {
		l = l[:cap(l)]
		for i := range l {
			l[i] = api.Item{Good: "ruin", N: -1}
		}
	}
}
