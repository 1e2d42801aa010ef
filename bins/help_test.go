package bins_test

import (
	"bytes"
	"math"
	"slices"
	"strconv"
	"strings"
	"testing"

	"entrepot/api"
	"entrepot/bins"
	"entrepot/cells"
	"entrepot/lists"
)

const most = api.MaxCount

// plain is a bin with what lies in it, as it is told by all calls.
type plain struct {
	api.Bin
	in []api.Item
}

func bin(number, zone, room int, in string) plain {
	return plain{api.Bin{Number: number, Zone: zone, Room: room}, lists.Of(in)}
}

// code is put down as the chapter tells it, of whatever bins.
func code(l ...plain) []byte {
	b := cells.Num(len(l))
	for _, x := range l {
		for _, n := range []int{x.Number, x.Zone, x.Room, len(x.in)} {
			b = append(b, cells.Num(n)...)
		}
		for _, i := range x.in {
			b = append(append(b, cells.Num(len(i.Good))...), i.Good...)
			b = append(b, cells.Num(i.N)...)
		}
	}
	return b
}

// floor is one that is just so.
func floor(t *testing.T, l ...plain) *bins.Floor {
	t.Helper()
	f, e := bins.Unpack(code(l...))
	if e != api.OK || f == nil {
		t.Fatal("Unpack:", l, e)
	}
	return f
}

// fresh is an empty floor.
func fresh(t *testing.T, l ...api.Bin) *bins.Floor {
	t.Helper()
	f, e := bins.New(l)
	if e != api.OK || f == nil {
		t.Fatal("New:", l, e)
	}
	return f
}

// many are so many bins, numbered from first on, each with room for n.
func many(first, bins, n int) []api.Bin {
	var l []api.Bin
	for i := range bins {
		l = append(l, api.Bin{Number: first + i, Zone: i % 16, Room: n})
	}
	return l
}

func sum(l []api.Item) int {
	n := 0
	for _, i := range l {
		n += i.N
	}
	return n
}

// is looks whether a floor is just so, by all calls that change nothing.
func is(f *bins.Floor, l ...plain) bool {
	totals := map[string]int{"nowhere": 0, "": 0, "A": 0}
	var all []api.Bin
	for _, x := range l {
		all = append(all, x.Bin)
		for _, i := range x.in {
			totals[i.Good] += i.N
		}
		if !slices.Equal(f.In(x.Number), x.in) || f.Left(x.Number) != x.Room-sum(x.in) {
			return false
		}
	}
	for good, n := range totals {
		if f.Of(good) != n {
			return false
		}
	}
	return slices.Equal(slices.Collect(f.Bins()), all) && bytes.Equal(f.Pack(), code(l...))
}

func has(t *testing.T, name string, f *bins.Floor, l ...plain) {
	t.Helper()
	if !is(f, l...) {
		t.Fatalf("%s: %v, %q, not %v", name, slices.Collect(f.Bins()), f.Pack(), l)
	}
}

// places are made of what is written as `1 a 3, 2 a 2`.
func places(s string) []api.Place {
	var l []api.Place
	for _, part := range strings.Split(s, ", ") {
		if part == "" {
			continue
		}
		words := strings.Fields(part)
		bin, _ := strconv.Atoi(words[0])
		n, _ := strconv.Atoi(words[2])
		l = append(l, api.Place{Bin: bin, Good: words[1], N: n})
	}
	return l
}

// as looks that what is refused changes nothing.
func as(t *testing.T, f *bins.Floor, call func() api.Errno, want api.Errno) {
	t.Helper()
	before := f.Pack()
	e := call()
	if e != want {
		t.Fatalf("%d, not %d", e, want)
	}
	if e != api.OK && !bytes.Equal(f.Pack(), before) {
		t.Fatalf("%d changed something", e)
	}
}

// puts looks at the places of Put; at none, if it is refused.
func puts(t *testing.T, f *bins.Floor, good string, n int, want string, e api.Errno) {
	t.Helper()
	as(t, f, func() api.Errno {
		l, e := f.Put(good, n)
		if !slices.Equal(l, places(want)) {
			t.Fatalf("Put %s %d: %v, not %s", good, n, l, want)
		}
		return e
	}, e)
}

func takes(t *testing.T, f *bins.Floor, good string, n int, want string, e api.Errno) {
	t.Helper()
	as(t, f, func() api.Errno {
		l, e := f.Take(good, n)
		if !slices.Equal(l, places(want)) {
			t.Fatalf("Take %s %d: %v, not %s", good, n, l, want)
		}
		return e
	}, e)
}

func moves(t *testing.T, f *bins.Floor, good string, from, to, n int, e api.Errno) {
	t.Helper()
	as(t, f, func() api.Errno { return f.Move(good, from, to, n) }, e)
}

func counts(t *testing.T, f *bins.Floor, bin int, good string, n, more int, e api.Errno) {
	t.Helper()
	as(t, f, func() api.Errno {
		x, e := f.Count(bin, good, n)
		if x != more {
			t.Fatalf("Count %d %s %d: %d, not %d", bin, good, n, x, more)
		}
		return e
	}, e)
}

// noGoods are no names of goods.
func noGoods() []string {
	return []string{"", "A", "a b", "a_", "é", "abcdefghijklmnopq", "a\x00", strings.Repeat("a", 1000)}
}

// noPieces are so many as nobody puts or takes.
func noPieces() []int {
	return []int{0, -1, math.MinInt, most + 1, math.MaxInt}
}

// noBins are numbers that no bin has.
func noBins() []int {
	return []int{0, -1, math.MinInt, 4097, math.MaxInt}
}
