package saga_test

import (
	"bytes"
	"math"
	"math/rand"
	"slices"
	"strings"
	"testing"

	"entrepot/api"
	"entrepot/cells"
	"entrepot/lists"
	"entrepot/saga"
)

// P15.5: bytes that were reckoned by hand.
func TestEncode(t *testing.T) {
	for _, c := range []struct {
		s    api.Saga
		want string
	}{
		{asks("a 5", "", 0, 1), "\x81\x83\x00\x01" + "\x01\x01a\x05" + "\x00\x01\x01" + "\x00" + "\x01\x00" + "\x00"},
		{cancelled(asks("a 5", "; ; a 3", 2, 2)), "\x81\x83\x02\x03" + "\x01\x01a\x05" + "\x00\x01\x02" + "\x00\x00\x01\x01a\x03" + "\x01\x00" + "\x01"},
		{waiting(of(api.SagaWaiting, "a 5, b 128", "; ")), "\x81\x83\x00\x02" + "\x02\x01a\x05\x01b\x81\x80" + "\x01\x03\x02" + "\x00\x00" + "\x00" + "\x00"},
		{waiting(of(api.SagaHeld, "a 5, b 1", "a 3, b 1; a 2")), "\x81\x83\x00\x02" + "\x02\x01a\x05\x01b\x01" + "\x01\x02\x02" + "\x02\x01a\x03\x01b\x01\x01\x01a\x02" + "\x00" + "\x00"},
		{cancelled(waiting(of(api.SagaUndoing, "a 5", "a 1; ; a 2", 0, 2))), "\x81\x83\x00\x03" + "\x01\x01a\x05" + "\x01\x04\x03" + "\x01\x01a\x01\x00\x01\x01a\x02" + "\x02\x00\x02" + "\x01"},
		{of(api.SagaShipping, "a 5", "a 1; ; a 4", 2), "\x81\x83\x00\x03" + "\x01\x01a\x05" + "\x00\x09\x03" + "\x01\x01a\x01\x00\x01\x01a\x04" + "\x01\x02" + "\x00"},
	} {
		if b, e := saga.Encode(c.s); string(b) != c.want || e != api.OK {
			t.Errorf("Encode(%v) = %q, %d, not %q", c.s, b, e, c.want)
		}
		if s, e := saga.Decode([]byte(c.want)); !same(s, c.s) || e != api.OK {
			t.Errorf("Decode(%q) = %v, %d, not %v", c.want, s, e, c.s)
		}
	}
}

func nums(b []byte, l ...int) []byte {
	for _, n := range l {
		b = append(b, cells.Num(n)...)
	}
	return b
}

func put(b []byte, l []api.Item) []byte {
	b = nums(b, len(l))
	for _, item := range l {
		b = nums(append(nums(b, len(item.Good)), item.Good...), item.N)
	}
	return b
}

func flag(is bool) int {
	if is {
		return 1
	}
	return 0
}

// code is put down as the chapter tells it, of whatever saga.
func code(s api.Saga) []byte {
	b := nums(put(nums(nil, s.Order, s.First, s.Regions), s.Want), flag(s.Waits), s.State, s.Asked)
	for _, l := range s.Got {
		b = put(b, l)
	}
	return nums(nums(nums(b, len(s.Pending)), s.Pending...), flag(s.Cancelled))
}

// P15.5
func TestWhatIsEncodedIsDecoded(t *testing.T) {
	for _, s := range mays() {
		b, e := saga.Encode(s)
		if !bytes.Equal(b, code(s)) || e != api.OK {
			t.Errorf("Encode(%v) = %q, %d, not %q", s, b, e, code(s))
		}
		if back, e := saga.Decode(b); !same(back, s) || e != api.OK {
			t.Errorf("%v is decoded as %v, %d", s, back, e)
		}
	}
	all(func(s api.Saga) {
		if !may(s) {
			return
		}
		b, e := saga.Encode(s)
		back, e2 := saga.Decode(b)
		if e != api.OK || e2 != api.OK || !same(back, s) || !bytes.Equal(b, code(s)) {
			t.Fatalf("%v: %q, %d, %v, %d", s, b, e, back, e2)
		}
	})
}

func notDecoded(t *testing.T, name string, b []byte) {
	t.Helper()
	if s, e := saga.Decode(b); !none(s) || e != api.ErrCode {
		t.Errorf("%s: Decode(%q) = %v, %d", name, b, s, e)
	}
}

// P15.5, R2
func TestWhatMayNotBeHasNoCode(t *testing.T) {
	for _, s := range mayNots() {
		if b, e := saga.Encode(s); len(b) != 0 || e != api.ErrArg {
			t.Errorf("Encode(%v) = %q, %d", s, b, e)
		}
		notDecoded(t, "one that may not be", code(s))
	}
}

// P15.5: what is cut off, or goes on.
func TestDecodeTakesWholeCodesAlone(t *testing.T) {
	for _, s := range mays() {
		b := code(s)
		for size := range b {
			notDecoded(t, "cut off", b[:size])
		}
		for _, more := range []string{"\x00", "\x01", "\xff", string(b)} {
			notDecoded(t, "more behind", append(slices.Clone(b), more...))
		}
	}
	notDecoded(t, "nothing", nil)
	notDecoded(t, "zeros", make([]byte, 100))
	notDecoded(t, "too long", append(code(mays()[0]), make([]byte, api.MaxCode)...))
}

// P15.5: what is no cell, flags that are none, and numbers of which there are more than may come.
func TestDecodeRefusesOtherBytes(t *testing.T) {
	parts := []string{"\x81\x83", "\x00", "\x03", "\x01\x01a\x05", "\x00", "\x09", "\x03", "\x01\x01a\x01", "\x00", "\x01\x01a\x04", "\x01", "\x02", "\x00"}
	if s, e := saga.Decode([]byte(strings.Join(parts, ""))); e != api.OK || s.State != api.SagaShipping {
		t.Fatal(s, e)
	}
	for place, others := range [][]string{
		{"\x82\x00\x83", "\x81\x03", "\x80", "\x00", "\x90", "\x91\x83", "\xff", ""},
		{"\x81\x00", "\x90", "\x03", "\x80", "\x7f"},
		{"\x81\x03", "\x00", "\x02", "\x04", "\x08", "\x09", "\x90", "\x88\x7f\xff\xff\xff\xff\xff\xff\xff", "\x80"},
		{"\x00", "\x01\x01a\x81\x05", "\x01\x01a\x00", "\x01\x01A\x05", "\x81\x01\x01a\x05", "\x02\x01a\x05\x01a\x05", "\x01\x00\x05", "\x01\x01a\x90", "\x01\x02a\x05"},
		{"\x02", "\x81\x01", "\x90", "\x80", "\x7f"},
		{"\x00", "\x0b", "\x81\x09", "\x90", "\x01", "\x80"},
		{"\x00", "\x04", "\x81\x03", "\x90", "\x80"},
		{"\x00", "\x01\x01a\x00", "\x01\x01a\x02", "\x01\x01a\x81\x01", "\x01\x01b\x01", "\x02\x01a\x01\x01b\x01"},
		{"\x01\x01a\x01", "\x80", "\x90", "\x01"},
		{"\x00", "\x01\x01a\x05", "\x01\x01a\x03", "\x01\x01a\x88\x7f\xff\xff\xff\xff\xff\xff\xff", "\x01\x01a\x90"},
		{"\x00", "\x02", "\x81\x01", "\x90", "\x09", "\x88\x7f\xff\xff\xff\xff\xff\xff\xff"},
		{"\x01", "\x03", "\x81\x02", "\x90", "\x7f", "\x80"},
		{"\x01", "\x02", "\x81\x00", "\x90", "\x80", ""},
	} {
		for _, other := range others {
			l := slices.Clone(parts)
			l[place] = other
			notDecoded(t, "another part", []byte(strings.Join(l, "")))
		}
	}
	// Regions, and how many are pending, of which there are more than may be: their own number of lists and numbers comes.
	for _, many := range []int{9, 16, 100} {
		s := api.Saga{Order: 1, Regions: many, Want: lists.Of("a 5"), State: api.SagaRefused, Asked: 1, Got: make([][]api.Item, many)}
		notDecoded(t, "many regions", code(s))
		s = of(api.SagaPicking, "a 5", "a 5", slices.Repeat([]int{0}, many)...)
		notDecoded(t, "many pending", code(s))
	}
}

// P15.5: what is decoded is encoded to the same bytes, so that no saga has two codes.
func TestDecodeOfChangedBytes(t *testing.T) {
	r := rand.New(rand.NewSource(155))
	letters := []byte("\x00\x01\x02\x03\x04\x05\x06\x07\x08\x09\x0a\x0b\x81\x90ab\xff")
	l := mays()
	taken := 0
	for range 200000 {
		b := code(l[r.Intn(len(l))])
		for range 1 + r.Intn(3) {
			b[r.Intn(min(len(b), 40))] = letters[r.Intn(len(letters))]
		}
		s, e := saga.Decode(b)
		if e == api.ErrCode && none(s) {
			continue
		}
		taken++
		if back, e2 := saga.Encode(s); e != api.OK || e2 != api.OK || !saga.May(s) || !bytes.Equal(back, b) {
			t.Fatalf("%q: %v, %d, %q, %d", b, s, e, back, e2)
		}
	}
	if taken < 5000 {
		t.Error("taken:", taken)
	}
}

// P15.5: a code is a code (1), however large its saga is.
func TestTheLongestCode(t *testing.T) {
	s := api.Saga{Order: math.MaxInt}
	if b, e := saga.Encode(s); b != nil || e != api.ErrArg {
		t.Error(b, e)
	}
	for _, s := range largest() {
		if b, e := saga.Encode(s); e != api.OK || len(b) > api.MaxCode {
			t.Error(len(b), e)
		}
	}
}

// R3: what is decoded hangs on no bytes that are handed in.
func TestDecodeSharesNothing(t *testing.T) {
	want := of(api.SagaShipping, "a 5", "a 1; ; a 4", 0, 2)
	b := append(code(want), "zzz"...)
	s, _ := saga.Decode(b[:len(b)-3])
	again, _ := saga.Decode(b[:len(b)-3])
	for i := range b {
		b[i] = 'z'
	}
	if !same(s, want) {
		t.Error(s)
	}
	spoil(s)
	if !same(again, want) {
		t.Error(again)
	}
}
