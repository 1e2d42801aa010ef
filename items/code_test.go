package items_test

import (
	"bytes"
	"math"
	"math/rand"
	"slices"
	"strings"
	"testing"

	"entrepot/api"
	"entrepot/cells"
	"entrepot/items"
)

// P6.3: the codes are reckoned by hand.
func TestEncode(t *testing.T) {
	for _, c := range []struct {
		l    []api.Item
		want string
	}{
		{nil, "\x00"},
		{[]api.Item{}, "\x00"},
		{list("a 3"), "\x01\x01a\x03"},
		{list("a 3, b 128"), "\x02\x01a\x03\x01b\x81\x80"},
		{list("- 1, apple-7 300"), "\x02\x01-\x01\x07apple-7\x82\x01\x2c"},
		{item("abcdefghijklmnop", most), "\x01\x10abcdefghijklmnop\x86\x01\x00\x00\x00\x00\x00"},
	} {
		if b, e := items.Encode(c.l); string(b) != c.want || e != api.OK {
			t.Errorf("Encode(%v) = %q, %d", c.l, b, e)
		}
		if l, e := items.Decode([]byte(c.want)); !slices.Equal(l, c.l) || e != api.OK {
			t.Errorf("Decode(%q) = %v, %d", c.want, l, e)
		}
	}
	for _, l := range mayNots() {
		if b, e := items.Encode(l); len(b) != 0 || e != api.ErrItems {
			t.Errorf("Encode(%v) = %q, %d", l, b, e)
		}
	}
}

// code is what Put puts: of lists that may not be too.
func code(t *testing.T, l []api.Item) []byte {
	t.Helper()
	b, e := items.Put(cells.New(), l).Done()
	if e != api.OK {
		t.Fatal(e)
	}
	return b
}

// P6.3
func TestWhatIsEncodedIsDecoded(t *testing.T) {
	for _, l := range mays() {
		b, e := items.Encode(l)
		if e != api.OK || !bytes.Equal(b, code(t, l)) {
			t.Errorf("Encode(%v) = %q, %d", l, b, e)
		}
		if back, e := items.Decode(b); !slices.Equal(back, l) || e != api.OK {
			t.Errorf("%v is decoded as %v, %d", l, back, e)
		}
		for size := range b {
			if back, e := items.Decode(b[:size]); len(back) != 0 || e != api.ErrCode {
				t.Errorf("%q, cut off: %v, %d", b[:size], back, e)
			}
		}
		for _, behind := range []string{"\x00", "\x01", "\xff", string(b)} {
			if back, e := items.Decode([]byte(string(b) + behind)); len(back) != 0 || e != api.ErrCode {
				t.Errorf("%q and more: %v, %d", b, back, e)
			}
		}
	}
}

// wrongCodes are none of a list that may be. The first four are beginnings of some; no other is.
func wrongCodes(t *testing.T) []string {
	wrong := []string{
		"", "\x01", "\x01\x01a", "\x02\x01a\x03",
		"\x90", "\xff", "\x80", "\x81\x01\x01a\x03", "\x01\x01a\x81\x03", "\x01\x81\x01a\x03", "\x01\x01a\x90", "\x01\x01a\x00", "\x01\x01A\x03", "\x01\x00\x03", "\x01\x90\x03",
		"\x01\x11abcdefghijklmnopq\x03", "\x01\x01a\x86\x01\x00\x00\x00\x00\x01", "\x01\x01a\x88\x7f\xff\xff\xff\xff\xff\xff\xff", "\x88\x7f\xff\xff\xff\xff\xff\xff\xff", "\x11", "\x7f",
		"\x02\x01b\x03\x01a\x03", "\x02\x01a\x03\x01a\x03", "\x02\x02ab\x03\x01a\x03", "\x02\x01a\x03\x01b\x00", "\x02\x01a\x00\x01b\x03", "\x01\x02\xc3\xa4\x03",
	}
	for _, l := range mayNots() {
		wrong = append(wrong, string(code(t, l)))
	}
	return wrong
}

// P6.3
func TestDecodeRefusesOtherBytes(t *testing.T) {
	for _, s := range wrongCodes(t) {
		if l, e := items.Decode([]byte(s)); len(l) != 0 || e != api.ErrCode {
			t.Errorf("Decode(%q) = %v, %d", s, l, e)
		}
	}
	if l, e := items.Decode(nil); len(l) != 0 || e != api.ErrCode {
		t.Error(l, e)
	}
	whole := []byte("\x01\x01a\x03")
	if l, e := items.Decode(whole[:3]); len(l) != 0 || e != api.ErrCode {
		t.Error("it saw what lies behind the end:", l, e)
	}
}

// P6.3: what is decoded is encoded to the same bytes, so that no list has two codes.
func TestWhatIsDecodedIsEncoded(t *testing.T) {
	r := rand.New(rand.NewSource(9))
	letters := []byte("\x00\x01\x02\x03\x81\x82\x90ab-A")
	taken := 0
	for range 300000 {
		b := make([]byte, r.Intn(8))
		for i := range b {
			b[i] = letters[r.Intn(len(letters))]
		}
		l, e := items.Decode(b)
		if e == api.ErrCode && len(l) == 0 {
			continue
		}
		taken++
		if again, e2 := items.Encode(l); e != api.OK || !bytes.Equal(again, b) || e2 != api.OK {
			t.Fatalf("%q is %v, %d, which is %q, %d", b, l, e, again, e2)
		}
	}
	if taken < 100 {
		t.Error("taken:", taken)
	}
}

// P6.5: lists that may not be, and longer ones, too.
func TestPut(t *testing.T) {
	for _, c := range []struct {
		l    []api.Item
		want string
	}{
		{nil, "\x00"},
		{list("a 3, b 128"), "\x02\x01a\x03\x01b\x81\x80"},
		{list("b -1, b 0, A -129"), "\x03\x01b\x90\x01b\x00\x01A\x91\x80"},
		{item("", math.MaxInt), "\x01\x00\x88\x7f\xff\xff\xff\xff\xff\xff\xff"},
		{item(strings.Repeat("x", 17), 1), "\x01\x11" + strings.Repeat("x", 17) + "\x01"},
		{slices.Repeat(list("a 3"), 17), "\x11" + strings.Repeat("\x01a\x03", 17)},
		{slices.Repeat(list("a 3"), 300), "\x82\x01\x2c" + strings.Repeat("\x01a\x03", 300)},
	} {
		m := cells.New().Num(7)
		if items.Put(m, c.l) != m {
			t.Errorf("Put of %v answers another maker", c.l)
		}
		if b, e := m.Flag(true).Done(); string(b) != "\x07"+c.want+"\x01" || e != api.OK {
			t.Errorf("Put of %v: %q, %d", c.l, b, e)
		}
	}
}

// P6.5: makers that put nothing.
func TestPutIntoNoRoom(t *testing.T) {
	if items.Put(nil, list("a 3")) != nil || items.Put(nil, nil) != nil {
		t.Error("a maker from none")
	}
	m := cells.New().Text(strings.Repeat("x", api.MaxCode-8))
	if items.Put(m, list("a 3")) != m {
		t.Error("another maker")
	}
	if b, e := m.Done(); len(b) != api.MaxCode || e != api.OK {
		t.Error(len(b), e)
	}
	if items.Put(m, nil) != m {
		t.Error("another maker, where the code is too long")
	}
	if b, e := m.Done(); len(b) != 0 || e != api.ErrLong {
		t.Error(len(b), e)
	}
	if b, e := items.Put(cells.New(), slices.Repeat(item("a", most), api.MaxCode)).Done(); len(b) != 0 || e != api.ErrLong {
		t.Error(len(b), e)
	}
}

// P6.5: what comes behind is left for others.
func TestTake(t *testing.T) {
	for _, l := range mays() {
		k := cells.Take(append([]byte("\x07"), string(code(t, l))+"\x02ab\x01"...))
		if k.Num(7, 7) != 7 {
			t.Fatal("7")
		}
		if got := items.Take(k); !slices.Equal(got, l) {
			t.Errorf("%v is taken as %v", l, got)
		}
		if k.Left() != 4 || k.Text(2) != "ab" || !k.Flag() || k.Done() != api.OK {
			t.Errorf("behind %v: %d left, %d", l, k.Left(), k.Done())
		}
	}
}

// P6.5
func TestTakeOfListsThatMayNotBe(t *testing.T) {
	wrong := wrongCodes(t)
	for i, s := range wrong {
		behind := "\x01"
		if i < 4 {
			// With more behind, these could be codes.
			behind = ""
		}
		k := cells.Take([]byte(s + behind))
		if l := items.Take(k); len(l) != 0 {
			t.Errorf("%q is taken as %v", s, l)
		}
		if k.Left() != 0 || k.Done() != api.ErrCode || k.Num(0, 9) != 0 || k.Flag() {
			t.Errorf("behind %q: %d left, %d", s, k.Left(), k.Done())
		}
	}
}

// P6.5
func TestTakeOfTakersWithNothing(t *testing.T) {
	if l := items.Take(nil); len(l) != 0 {
		t.Error("of a nil Taker:", l)
	}
	k := cells.Take([]byte("\x09\x01\x01a\x03"))
	k.Num(0, 8)
	if l := items.Take(k); len(l) != 0 || k.Done() != api.ErrCode {
		t.Error("of one at fault:", l, k.Done())
	}
	k = cells.Take(nil)
	if l := items.Take(k); len(l) != 0 || k.Done() != api.ErrCode {
		t.Error("of an empty one:", l, k.Done())
	}
}

// R3: what is decoded hangs on no bytes that are handed in, and is new each time.
func TestCodesShareNothing(t *testing.T) {
	b := []byte("\x02\x01a\x03\x01b\x05\x07\x07")
	l, _ := items.Decode(b[:7])
	again, _ := items.Decode(b[:7])
	k := cells.Take(b[:7])
	for i := range b {
		b[i] = 'z'
	}
	taken := items.Take(k)
	for _, got := range [][]api.Item{l, again, taken} {
		if !slices.Equal(got, list("a 3, b 5")) {
			t.Error(got)
		}
		clear(got[:cap(got)])
	}
	first, _ := items.Encode(list("a 3"))
	second, _ := items.Encode(list("a 3"))
	clear(first[:cap(first)])
	if string(second) != "\x01\x01a\x03" {
		t.Errorf("%q", second)
	}
}
