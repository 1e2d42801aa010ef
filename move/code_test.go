package move_test

import (
	"bytes"
	"math"
	"math/rand"
	"slices"
	"strings"
	"testing"

	"entrepot/api"
	"entrepot/cells"
	"entrepot/items"
	"entrepot/move"
)

// P19.4: bytes that were reckoned by hand.
func TestPack(t *testing.T) {
	m := move.New()
	packs := func(want string) {
		t.Helper()
		if b := m.Pack(); string(b) != want {
			t.Fatalf("%q, not %q", b, want)
		}
		again, e := move.Unpack([]byte(want))
		if e != api.OK || string(again.Pack()) != want {
			t.Fatalf("%q, %d, not %q", again.Pack(), e, want)
		}
	}
	packs("\x00")
	goes(t, m, 300, 0, 7, list("a 5, bc 128"), api.OK)
	packs("\x01\x82\x01\x2c\x00\x07\x02\x01a\x05\x02bc\x81\x80\x00")
	comes(t, m, 300, list("a 5, bc 128"), api.OK)
	packs("\x01\x82\x01\x2c\x00\x07\x02\x01a\x05\x02bc\x81\x80\x01")
	goes(t, m, 9, 6, 1, list("z 1"), api.OK)
	packs("\x02\x09\x06\x01\x01\x01z\x01\x00\x82\x01\x2c\x00\x07\x02\x01a\x05\x02bc\x81\x80\x01")
	forgets(t, m, 300, api.OK)
	packs("\x01\x09\x06\x01\x01\x01z\x01\x00")
}

// P19.4: moves at the edges of what may be.
func TestUnpackAtTheEdges(t *testing.T) {
	full := api.Way{Move: 7, From: 3, To: 4, Items: goods(0, 16, most)}
	for _, l := range [][]api.Way{
		nil,
		{under(1, 0, 7, "a 1")},
		{came(api.MaxOrder, 7, 0, "a 1")},
		{came(1, 0, 1, "a 1"), came(2, 1, 0, "a 1"), under(3, 6, 7, "a 2")},
		{under(1, 0, 1, "a 1"), under(api.MaxOrder-1, 0, 1, "a 1"), came(api.MaxOrder, 7, 6, "a 1")},
		{full},
		{under(1, 3, 4, "a 1"), full, under(8, 3, 4, "b 1")},
		many(1, 255),
		many(1, 256),
		many(api.MaxOrder-255, 256),
	} {
		has(t, "at the edge", unpacked(t, l...), l...)
	}
}

// P19.4: as many moves as may be, each with the longest list: there is room for them in a code.
func TestPackOfTheLongest(t *testing.T) {
	var goods []api.Item
	for i := range 16 {
		goods = append(goods, api.Item{Good: "abcdefghijklmno" + string(rune('a'+i)), N: most})
	}
	m := move.New()
	var l []api.Way
	for i := range 256 {
		w := api.Way{Move: api.MaxOrder - 255 + i, From: 7, To: i % 7, Items: goods}
		goes(t, m, w.Move, w.From, w.To, goods, api.OK)
		l = append(l, w)
	}
	has(t, "the longest", m, l...)
	has(t, "the longest, unpacked", unpacked(t, l...), l...)
}

func notUnpacked(t *testing.T, name string, b []byte) {
	t.Helper()
	if m, e := move.Unpack(b); m != nil || e != api.ErrCode {
		t.Errorf("%s: Unpack of %d bytes = %v, %d", name, len(b), m, e)
	}
}

// P19.4
func TestUnpackOfTooMany(t *testing.T) {
	for _, n := range []int{257, 258, 300, 512, 5000} {
		notUnpacked(t, "too many", code(many(1, n)...))
	}
	// As many as there are moves behind, but more than may be.
	notUnpacked(t, "too many told", append(cells.Num(257), code(many(1, 256)...)[3:]...))
	notUnpacked(t, "more told than there are", append(cells.Num(256), code(many(1, 255)...)[2:]...))
	notUnpacked(t, "fewer told than there are", append(cells.Num(255), code(many(1, 256)...)[3:]...))
}

// P19.4: each thing that no move is, in the first move and in ones behind.
func TestUnpackRefusesMoves(t *testing.T) {
	wrong := []api.Way{under(5, 0, 1, ""), came(5, 0, 1, "")}
	for _, number := range noMoves() {
		wrong = append(wrong, under(number, 0, 1, "a 3"), came(number, 0, 1, "a 3"))
	}
	for _, way := range noWays() {
		wrong = append(wrong, under(5, way[0], way[1], "a 3"), came(5, way[0], way[1], "a 3"))
	}
	for _, l := range mayNots() {
		wrong = append(wrong, api.Way{Move: 5, From: 0, To: 1, Items: l}, api.Way{Move: 5, From: 0, To: 1, Items: l, Came: true})
	}
	first, last := under(2, 3, 4, "a 3"), came(9, 4, 3, "a 3")
	for _, w := range wrong {
		notUnpacked(t, "alone", code(w))
		notUnpacked(t, "first", code(w, last))
		notUnpacked(t, "last", code(first, w))
		notUnpacked(t, "in the middle", code(first, w, last))
	}
	// What stands around them may be.
	has(t, "both", unpacked(t, first, last), first, last)
}

// P19.4
func TestUnpackRefusesNumbersThatDoNotRise(t *testing.T) {
	for _, numbers := range [][]int{{1, 1}, {2, 1}, {1, 2, 2}, {1, 3, 2}, {5, 5, 6}, {api.MaxOrder, 1}, {api.MaxOrder, api.MaxOrder}, {1, 2, 3, 4, 1}} {
		var l []api.Way
		for i, number := range numbers {
			l = append(l, under(number, i, i+1, "a 3"))
		}
		notUnpacked(t, "numbers that do not rise", code(l...))
	}
}

// P19.4: what is cut off, goes on, or is no cell.
func TestUnpackRefusesOtherBytes(t *testing.T) {
	b := code(came(300, 0, 7, "a 5, bc 128"), under(301, 7, 0, "a 5"))
	for size := range b {
		notUnpacked(t, "cut off", b[:size])
	}
	for _, more := range []string{"\x00", "\x01", "\xff", string(b), strings.Repeat("\x00", 1000), strings.Repeat("\x00", api.MaxCode)} {
		notUnpacked(t, "more behind", append(slices.Clone(b), more...))
	}
	whole := "\x01\x05\x00\x01\x01\x01a\x03\x00"
	if _, e := move.Unpack([]byte(whole)); e != api.OK {
		t.Fatal(e)
	}
	for _, s := range []string{
		"", "\x01", "\x02", "\x90", "\x80", "\x81\x00", "\x81\x01" + whole[1:], "\xff", "\x9f", "\x88\x7f\xff\xff\xff\xff\xff\xff\xff", "\x00\x00",
		// A number, a region, how many items, a flag, each longer than need be or no number at all.
		"\x01\x81\x05\x00\x01\x01\x01a\x03\x00", "\x01\x05\x80\x01\x01\x01a\x03\x00", "\x01\x05\x81\x00\x01\x01\x01a\x03\x00", "\x01\x05\x00\x81\x01\x01\x01a\x03\x00",
		"\x01\x05\x00\x01\x81\x01\x01a\x03\x00", "\x01\x05\x00\x01\x01\x81\x01a\x03\x00", "\x01\x05\x00\x01\x01\x01a\x81\x03\x00", "\x01\x05\x00\x01\x01\x01a\x03\x81\x00", "\x01\x05\x00\x01\x01\x01a\x03\x81\x01",
		// A flag that is none.
		"\x01\x05\x00\x01\x01\x01a\x03\x02", "\x01\x05\x00\x01\x01\x01a\x03\x90", "\x01\x05\x00\x01\x01\x01a\x03\x7f", "\x01\x05\x00\x01\x01\x01a\x03\xff",
		"\x02\x05\x00\x01\x01\x01a\x03\x00", "\x00\x05\x00\x01\x01\x01a\x03\x00",
	} {
		notUnpacked(t, "no code", []byte(s))
	}
	notUnpacked(t, "nothing", nil)
	notUnpacked(t, "zeros", make([]byte, 1000))
	if m, e := move.Unpack(b[:len(b):len(b)]); e != api.OK || m.Len() != 2 {
		t.Error("the whole:", e)
	}
	// What lies behind the end of a list is not there.
	if _, e := move.Unpack(append(b, 0)[:len(b)-1]); e != api.ErrCode {
		t.Error("behind the end:", e)
	}
}

// P19.4: whatever bytes: what is unpacked is packed to the same, and each of it may be.
func TestUnpackOfChangedBytes(t *testing.T) {
	r := rand.New(rand.NewSource(194))
	whole := code(under(1, 0, 7, "a 5, b 3"), came(3, 2, 5, "a 5"), under(5, 1, 0, "b 2"))
	taken := 0
	for range 300000 {
		b := slices.Clone(whole)
		for range 1 + r.Intn(3) {
			b[r.Intn(len(b))] = byte(r.Intn(12))
		}
		m, e := move.Unpack(b)
		if e == api.ErrCode && m == nil {
			continue
		}
		taken++
		if e != api.OK || !bytes.Equal(m.Pack(), b) {
			t.Fatalf("%q: %d, %q", b, e, m.Pack())
		}
		for w := range m.All() {
			if w.Move < 1 || w.From < 0 || w.From > 7 || w.To < 0 || w.To > 7 || w.From == w.To || len(w.Items) == 0 || !items.May(w.Items) {
				t.Fatalf("%q: %v", b, w)
			}
		}
	}
	if taken < 1000 {
		t.Error("taken:", taken)
	}
}

// P19.4, R1: bytes of any length.
func TestUnpackOfAnyBytes(t *testing.T) {
	r := rand.New(rand.NewSource(195))
	for range 20000 {
		b := make([]byte, r.Intn(60))
		for i := range b {
			b[i] = byte(r.Intn(256) >> r.Intn(8))
		}
		if m, e := move.Unpack(b); e == api.OK && !bytes.Equal(m.Pack(), b) || e != api.OK && (e != api.ErrCode || m != nil) {
			t.Fatalf("%q: %v, %d", b, m, e)
		}
	}
	notUnpacked(t, "great numbers", bytes.Repeat(cells.Num(math.MaxInt), 1000))
}

// P19.4, R3: what was packed and unpacked goes on as the first one, whatever becomes of the bytes.
func TestUnpackGoesOn(t *testing.T) {
	m := unpacked(t, under(3, 0, 1, "a 9, b 4"), came(5, 0, 1, "c 1"))
	b := m.Pack()
	again, _ := move.Unpack(b)
	clear(b[:cap(b)])
	for _, m := range []*move.Moves{m, again} {
		goes(t, m, 3, 0, 1, list("a 2"), api.ErrTwice)
		forgets(t, m, 3, api.ErrState)
		comes(t, m, 5, nil, api.ErrTwice)
		comes(t, m, 3, list("a 9, b 4"), api.OK)
		forgets(t, m, 5, api.OK)
		goes(t, m, 4, 7, 1, list("d 1"), api.OK)
		has(t, "behind", m, came(3, 0, 1, "a 9, b 4"), under(4, 7, 1, "d 1"))
	}
}
