package hold_test

import (
	"bytes"
	"fmt"
	"slices"
	"strings"
	"testing"

	"entrepot/api"
	"entrepot/hold"
)

// P8.2: the code's bytes, reckoned by hand.
func TestPack(t *testing.T) {
	if b := hold.New().Pack(); string(b) != "\x01\x00\x00" {
		t.Errorf("of nothing: %x", b)
	}
	s := hold.New()
	s.Do(api.DoReceive, list("a 200, b 5"))
	s.Take(300, list("a 130"))
	s.Take(2, list("a 9, b 1"))
	s.Pick(2)
	s.Take(7, list("b 2"))
	s.Pick(7)
	s.Ship(7)
	want := "\x1d" + "\x02" +
		"\x01a" + "\x3d\x81\x82\x09\x00" + "\x81\xc8\x00\x00\x00\x00\x00\x00" +
		"\x01b" + "\x02\x00\x01\x00" + "\x05\x00\x00\x00\x02\x00\x00" +
		"\x03" +
		"\x02" + "\x00" + "\x02\x01a\x09\x01b\x01" + "\x00" +
		"\x07" + "\x00" + "\x00" + "\x01\x01b\x02" +
		"\x82\x01\x2c" + "\x01\x01a\x81\x82" + "\x00" + "\x00"
	if b := s.Pack(); string(b) != want {
		t.Errorf("%q, not %q", b, want)
	}
	u, e := hold.Unpack([]byte(want))
	if e != api.OK {
		t.Fatal(e)
	}
	has(t, "unpacked", u, of(2, "", "a 9, b 1", ""), of(7, "", "", "b 2"), of(300, "a 130", "", ""))
}

// P8.2: what is unpacked goes on as the first one.
func TestUnpackGoesOn(t *testing.T) {
	s := mixed(t)
	u, e := hold.Unpack(s.Pack())
	if e != api.OK {
		t.Fatal(e)
	}
	for _, s := range []*hold.Shelf{s, u} {
		does(t, "Take", take(s, list("a 2")), 1, "a 2")
		does(t, "Ship", s.Ship, 7, "a 5, c 6")
		does(t, "Free", s.Free, 7, "a 2, b 1")
		if n, e := s.Count("a", 9); n != 2 || e != api.OK {
			t.Error(n, e)
		}
	}
	if !bytes.Equal(s.Pack(), u.Pack()) {
		t.Error("unlike")
	}
}

// notUnpacked looks whether bytes are no shelf's code.
func notUnpacked(t *testing.T, name string, b []byte) {
	t.Helper()
	if s, e := hold.Unpack(b); s != nil || e != api.ErrCode {
		t.Errorf("%s: %v, %d", name, s, e)
	}
}

// P8.2
func TestUnpackRefusesHolds(t *testing.T) {
	goods := stockCode(good{"a", 5, 3, 2, 9}, good{"b", 0, 1, 4, 0})
	one, two := of(4, "a 3", "b 4", ""), of(6, "b 1", "a 2", "a 9")
	has(t, "both", unpacked(t, goods, one, two), one, two)
	for name, l := range map[string][]api.Hold{
		"orders that fall":              {of(4, "a 3", "b 4", ""), of(3, "b 1", "a 2", "a 9")},
		"the same order":                {one, of(4, "b 1", "a 2", "a 9")},
		"order 0":                       {of(0, "a 3, b 1", "a 2, b 4", "a 9")},
		"an order below 0":              {of(-1, "a 3, b 1", "a 2, b 4", "a 9")},
		"a great order":                 {one, of(api.MaxOrder+1, "b 1", "a 2", "a 9")},
		"an order of nothing":           {one, of(5, "", "", ""), two},
		"an order of nothing ahead":     {of(1, "", "", ""), one, two},
		"an order of nothing at last":   {one, two, of(7, "", "", "")},
		"less held than in the stock":   {of(4, "a 2", "b 4", ""), two},
		"more held":                     {of(4, "a 4", "b 4", ""), two},
		"nothing held of a good":        {of(4, "a 3", "b 4", ""), of(6, "", "a 2", "a 9")},
		"held of another good":          {of(4, "a 3, c 1", "b 4", ""), two},
		"less picked than in the stock": {of(4, "a 3", "b 3", ""), two},
		"more picked":                   {of(4, "a 3", "b 5", ""), two},
		"picked of another good":        {of(4, "a 3", "b 4, c 1", ""), two},
		"picked and not held":           {of(4, "", "a 3, b 4", ""), two},
		"one alone":                     {one},
		"none":                          {},
		"one more":                      {one, two, of(7, "a 1", "", "")},
		"a list that falls":             {one, of(6, "b 1", "a 2", "b 1, a 9")},
		"nothing of a good":             {one, of(6, "a 0, b 1", "a 2", "a 9")},
		"less than nothing":             {of(4, "a 4", "b 4", ""), of(6, "a -1, b 1", "a 2", "a 9")},
		"more than a count":             {one, {Order: 6, Held: two.Held, Picked: two.Picked, Shipped: item("a", most+1)}},
		"no good":                       {one, of(6, "b 1", "a 2", "A 9")},
		"a great order that goes round": {one, two, of(1<<62, "", "", "a 1")},
	} {
		notUnpacked(t, name, code(goods, l...))
	}
	shipped := unpacked(t, goods, one, two, of(7, "", "", "z 5"))
	has(t, "shipped of whatever", shipped, one, two, of(7, "", "", "z 5"))
}

// P8.2: 256 orders, and no more.
func TestUnpackOfManyOrders(t *testing.T) {
	var l []api.Hold
	for i := range 257 {
		l = append(l, of(3*i+1, "a 1", "", ""))
	}
	has(t, "256", unpacked(t, stockCode(good{"a", 1, 256, 0, 0}), l[:256]...), l[:256]...)
	notUnpacked(t, "257", code(stockCode(good{"a", 0, 257, 0, 0}), l...))
}

// P8.2: what is cut off, goes on, or is no cell.
func TestUnpackRefusesOtherBytes(t *testing.T) {
	b := mixed(t).Pack()
	for size := range b {
		notUnpacked(t, "cut off", b[:size])
	}
	for _, more := range []string{"\x00", "\x01", "\xff", string(b)} {
		notUnpacked(t, "more behind", append(slices.Clone(b), more...))
	}
	none := "\x01\x00\x00"
	if _, e := hold.Unpack([]byte(none)); e != api.OK {
		t.Fatal(e)
	}
	for _, s := range []string{"\x00\x00", "\x02\x00\x00\x00", "\x01\x01\x00", "\x01\x90\x00", "\x81\x01\x00\x00", "\x01\x00\x90", "\x01\x00\x81\x00", "\x01\x00\xff", "\x90", "\x01\x00\x82\x01\x01", "\x01\x00\x88\x7f\xff\xff\xff\xff\xff\xff\xff"} {
		notUnpacked(t, "no cell", []byte(s))
	}
	unbalanced := bytes.Replace(stockCode(good{"a", 5, 0, 0, 0}), []byte{5}, []byte{6}, 1)
	notUnpacked(t, "a stock that is not balanced", code(unbalanced))
}

// long is a code of so many bytes, near MaxCode: of 256 orders, with long lists of goods with long names.
func long(t *testing.T, size int) []byte {
	t.Helper()
	const each = 1 << 31
	var lines []good
	var l, away []api.Item
	for i := range 16 {
		name := fmt.Sprintf("a-good-of-name%02d", i)
		lines = append(lines, good{name, 0, 256 * each, 256 * each, 0})
		l = append(l, api.Item{Good: name, N: each})
		away = append(away, api.Item{Good: name, N: most})
	}
	var orders []api.Hold
	for i := range 256 {
		orders = append(orders, api.Hold{Order: 1<<39 + i, Held: l, Picked: l})
	}
	goods := stockCode(lines...)
	// What is missing is shipped: whole lists of 24 bytes an item, then two of 3 to 15 bytes an item.
	missing, whole := size-len(code(goods, orders...)), 16*24
	i := 0
	for ; missing >= 96+whole; missing -= whole {
		orders[i].Shipped = away
		i++
	}
	for j := range 32 {
		bytes := missing / 32
		if j < missing%32 {
			bytes++
		}
		name := string(rune('a'+j%16)) + strings.Repeat("x", bytes-3)
		h := &orders[i+j/16]
		h.Shipped = append(h.Shipped, api.Item{Good: name, N: 1})
	}
	b := code(goods, orders...)
	if len(b) != size {
		t.Fatal(len(b))
	}
	return b
}

// P8.2: a code has MaxCode bytes at most.
func TestTheLongestCode(t *testing.T) {
	b := long(t, api.MaxCode)
	s, e := hold.Unpack(b)
	if e != api.OK || !bytes.Equal(s.Pack(), b) || !s.Sound() {
		t.Fatal("MaxCode bytes:", e)
	}
	notUnpacked(t, "one more", long(t, api.MaxCode+1))
	// It goes on, though there is no code of it.
	if e := s.Do(api.DoReceive, list("a 1")); e != api.OK || len(s.Pack()) != 0 {
		t.Error("longer:", e, len(s.Pack()))
	}
	if s.Stock().Level("a").Free != 1 || !s.Sound() {
		t.Error("it does not go on")
	}
}

// R3
func TestCodesShareNothing(t *testing.T) {
	s := mixed(t)
	b := s.Pack()
	u, _ := hold.Unpack(b)
	for i := range b {
		b[i] = 'z'
	}
	clear(b[:cap(b)])
	for _, s := range []*hold.Shelf{s, u} {
		has(t, "packed", s, of(7, "a 2, b 1", "a 5, c 6", "a 9, c 1"), of(9, "a 1", "b 2", ""))
	}
}
