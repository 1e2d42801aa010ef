package ask_test

import (
	"bytes"
	"math"
	"math/rand"
	"slices"
	"testing"

	"entrepot/api"
	"entrepot/ask"
	"entrepot/lists"
)

// P10.1: the codes are reckoned by hand.
func TestEncode(t *testing.T) {
	items := "\x02\x01a\x03\x01b\x81\xc8"
	for kind, body := range []string{
		api.AskOrder:   "\x01\x00\x00\x00\x01\x00" + items,
		api.AskCancel:  "\x02\x81\x83\x00\x00\x00\x00\x00",
		api.AskPick:    "\x03\x81\x83\x00\x00\x00\x00\x00",
		api.AskShip:    "\x04\x81\x83\x00\x00\x00\x00\x00",
		api.AskReturn:  "\x05\x81\x83\x04\x00\x00\x00" + items,
		api.AskReceive: "\x06\x00\x04\x00\x00\x00" + items,
		api.AskCount:   "\x07\x00\x04\x00\x09\x01a\x00",
		api.AskRestock: "\x08\x00\x04\x00\x00\x00" + items,
		api.AskScrap:   "\x09\x00\x04\x00\x00\x00" + items,
		api.AskMove:    "\x0a\x00\x04\x05\x00\x00" + items,
		api.AskLow:     "\x0b\x00\x00\x00\x82\x01\x2c\x00\x00",
	} {
		if kind == 0 {
			continue
		}
		a := of(kind)
		if b, e := ask.Encode(a); string(b) != "\x03\x02"+body || e != api.OK {
			t.Errorf("Encode(%v) = %q, %d", a, b, e)
		}
		if b := ask.Body(a); string(b) != body {
			t.Errorf("Body(%v) = %q", a, b)
		}
		if back, e := ask.Decode([]byte("\x03\x02" + body)); !same(back, a) || e != api.OK {
			t.Errorf("%v is decoded as %v, %d", a, back, e)
		}
	}
	last := with(with(of(api.AskLow), 'c', 63), '#', mostNumber)
	if b, e := ask.Encode(last); string(b) != "\x3f\x85\x01\x00\x00\x00\x00\x0b\x00\x00\x00\x82\x01\x2c\x00\x00" || e != api.OK {
		t.Errorf("%q, %d", b, e)
	}
}

// P10.1, P10.3
func TestWhatIsEncodedIsDecoded(t *testing.T) {
	for _, a := range mays() {
		b, e := ask.Encode(a)
		if !bytes.Equal(b, code(a)) || e != api.OK {
			t.Errorf("Encode(%v) = %q, %d", a, b, e)
		}
		if body := ask.Body(a); !bytes.Equal(body, bodyCode(a)) {
			t.Errorf("Body(%v) = %q", a, body)
		}
		if back, e := ask.Decode(b); !same(back, a) || e != api.OK {
			t.Errorf("%v is decoded as %v, %d", a, back, e)
		}
	}
}

// P10.1: a body does not tell by whom it is asked, but all else.
func TestBodies(t *testing.T) {
	l := mays()
	for _, a := range l {
		for _, b := range l {
			by := with(with(b, 'c', a.Client), '#', a.Number)
			if bytes.Equal(ask.Body(a), ask.Body(b)) != same(a, by) {
				t.Errorf("%v, %v", a, b)
			}
		}
	}
}

// P10.1, R2
func TestWhatMayNotBeHasNoCode(t *testing.T) {
	for _, a := range mayNots() {
		if b, e := ask.Encode(a); len(b) != 0 || e != api.ErrArg {
			t.Errorf("Encode(%v) = %q, %d", a, b, e)
		}
		if b := ask.Body(a); len(b) != 0 {
			t.Errorf("Body(%v) = %q", a, b)
		}
		notDecoded(t, "one that may not be", code(a))
	}
}

// P10.1: what is cut off, or goes on.
func TestDecodeTakesWholeCodesAlone(t *testing.T) {
	for _, a := range each() {
		b := code(a)
		for size := range b {
			notDecoded(t, "cut off", b[:size])
		}
		for _, more := range []string{"\x00", "\x01", "\xff", string(b)} {
			notDecoded(t, "more behind", append(slices.Clone(b), more...))
		}
		notDecoded(t, "a body", bodyCode(a))
	}
	notDecoded(t, "nothing", nil)
}

// P10.1: what is no cell, or one that no maker makes.
func TestDecodeRefusesOtherBytes(t *testing.T) {
	items := "\x01\x01a\x03"
	whole := "\x03\x02\x01\x00\x00\x00\x01\x00" + items
	if _, e := ask.Decode([]byte(whole)); e != api.OK {
		t.Fatal(e)
	}
	for _, s := range []string{
		"\x81\x03" + whole[1:], "\x83\x00\x00\x03" + whole[1:], "\x03\x81\x02" + whole[2:], "\x03\x02\x81\x01" + whole[3:],
		"\x80" + whole[1:], "\x93" + whole[1:], "\xff" + whole[1:],
		"\x03\x02\x01\x00\x00\x00\x81\x01\x00" + items,
		"\x03\x02\x01\x00\x00\x00\x01\x90" + items,
		"\x03\x02\x01\x00\x00\x00\x01\x00\x81\x01\x01a\x03",
		"\x03\x02\x01\x00\x00\x00\x01\x00\x90",
		"\x03\x02\x01\x00\x00\x00\x01\x00\x88\x7f\xff\xff\xff\xff\xff\xff\xff\x01a\x03",
		"\x03\x02\x01\x00\x00\x00\x01\x00\x01\x01a\x81\x03",
		"\x03\x02\x07\x00\x04\x00\x09\x81\x01a\x00",
		"\x03\x02\x07\x00\x04\x00\x09\x88\x7f\xff\xff\xff\xff\xff\xff\xffa\x00",
	} {
		notDecoded(t, "no cell", []byte(s))
	}
}

// P10.1: what is decoded is encoded to the same bytes, so that no request has two codes.
func TestDecodeOfChangedBytes(t *testing.T) {
	r := rand.New(rand.NewSource(10))
	letters := []byte("\x00\x01\x02\x03\x04\x05\x06\x07\x08\x09\x0a\x0b\x0c\x3f\x40\x81\x90\x91ab-A\xff")
	l := mays()
	taken := 0
	for range 300000 {
		b := code(l[r.Intn(len(l))])
		for range 1 + r.Intn(3) {
			b[r.Intn(len(b))] = letters[r.Intn(len(letters))]
		}
		a, e := ask.Decode(b)
		if e == api.ErrCode && same(a, api.Ask{}) {
			continue
		}
		taken++
		if back, e2 := ask.Encode(a); e != api.OK || e2 != api.OK || !ask.May(a) || !bytes.Equal(back, b) {
			t.Fatalf("%q: %v, %d, %q, %d", b, a, e, back, e2)
		}
	}
	if taken < 10000 {
		t.Error("taken:", taken)
	}
}

// plainMay says by plain words what the chapter does of one kind after the other.
func plainMay(a api.Ask) bool {
	within := func(n, least, most int) bool { return n >= least && n <= most }
	letters := ""
	if within(a.Kind, 1, 11) {
		letters = fields()[a.Kind]
	}
	may := letters != "" && within(a.Client, 0, 63) && within(a.Number, 1, 1<<32)
	zero := map[rune]bool{'o': a.Order == 0, 'r': a.Region == 0, 't': a.To == 0, 'n': a.N == 0, 'g': a.Good == "", 'i': len(a.Items) == 0}
	for _, letter := range letters {
		switch letter {
		case 'o':
			may = may && within(a.Order, 1, 1<<40)
		case 'r':
			may = may && within(a.Region, 0, 7)
		case 't':
			may = may && within(a.To, 0, 7) && a.To != a.Region
		case 'n':
			may = may && within(a.N, least(a.Kind), most(a.Kind))
		case 'g':
			may = may && (a.Good == "a" || a.Good == "b-1")
		case 'i':
			may = may && len(a.Items) == 1 && a.Items[0].N > 0
		}
		delete(zero, letter)
	}
	for _, is := range zero {
		may = may && is
	}
	return may
}

// P10.1: requests by chance, with numbers at all edges.
func TestRequestsByChance(t *testing.T) {
	r := rand.New(rand.NewSource(11))
	numbers := []int{math.MinInt, -1, 0, 1, 2, 3, 7, 8, 63, 64, 1<<32 - 1, 1 << 32, 1<<32 + 1, 1<<32 + 2, 1 << 40, 1<<40 + 1, math.MaxInt}
	goods := []string{"a", "b-1", "A", "a b"}
	may := 0
	for range 400000 {
		a := each()[r.Intn(11)]
		if len(a.Items) > 0 {
			a.Items = lists.Of("a 1")
		}
		for range r.Intn(3) {
			a = with(a, []rune("c#kortn")[r.Intn(7)], numbers[r.Intn(len(numbers))])
		}
		switch r.Intn(16) {
		case 0:
			a.Good = goods[r.Intn(len(goods))]
		case 1:
			a.Items = nil
		case 2:
			a.Items = lists.Of("b 0")
		case 3:
			a.Items = lists.Of("b 4")
		}
		want := plainMay(a)
		b, e := ask.Encode(a)
		if ask.May(a) != want || (e == api.OK) != want {
			t.Fatalf("%v: %t, %d, not %t", a, ask.May(a), e, want)
		}
		back, e := ask.Decode(code(a))
		if want && (e != api.OK || !same(back, a) || !bytes.Equal(b, code(a))) || !want && e != api.ErrCode {
			t.Fatalf("%v: %v, %d", a, back, e)
		}
		if want {
			may++
		}
	}
	if may < 50000 || may > 350000 {
		t.Error("may:", may)
	}
}

// R3: what is answered shares nothing with what was handed in, nor with what is answered again.
func TestAnswersAreNew(t *testing.T) {
	for _, a := range each() {
		want := code(a)
		first, _ := ask.Encode(a)
		body := ask.Body(a)
		clear(first[:cap(first)])
		clear(body[:cap(body)])
		if b, _ := ask.Encode(a); !bytes.Equal(b, want) || !bytes.Equal(ask.Body(a), bodyCode(a)) {
			t.Errorf("%q, not %q", b, want)
		}
		b := slices.Clone(want)
		one, _ := ask.Decode(b)
		two, _ := ask.Decode(b)
		for i := range b {
			b[i] = 'z'
		}
		for i := range two.Items[:cap(two.Items)] {
			two.Items[:cap(two.Items)][i] = api.Item{Good: "ruin", N: -1}
		}
		if !same(one, a) {
			t.Errorf("%v, not %v", one, a)
		}
	}
}
