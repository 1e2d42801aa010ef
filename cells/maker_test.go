package cells_test

import (
	"bytes"
	"math"
	"strings"
	"testing"

	"entrepot/api"
	"entrepot/cells"
)

func done(t *testing.T, m *cells.Maker) []byte {
	t.Helper()
	b, e := m.Done()
	if e != api.OK {
		t.Fatal("Done:", e)
	}
	return b
}

// P1.2
func TestMakerPutsCellBehindCell(t *testing.T) {
	b := done(t, cells.New().Num(7).Num(-7).Num(128).Text("").Text("ab\x00").Flag(true).Flag(false).Num(math.MinInt))
	if want := "\x07\x91\x06\x81\x80\x00\x03ab\x00\x01\x00\x98\x7f\xff\xff\xff\xff\xff\xff\xff"; string(b) != want {
		t.Errorf("%x, not %x", b, want)
	}
	long := strings.Repeat("x", 128)
	if b := done(t, cells.New().Text(long)); string(b) != "\x81\x80"+long {
		t.Errorf("a text of 128: %x", b)
	}
	if b := done(t, cells.New()); len(b) != 0 {
		t.Errorf("nothing: %x", b)
	}
}

// P1.2
func TestMakerAnswersItself(t *testing.T) {
	m := cells.New()
	if m.Num(1) != m || m.Text("a") != m || m.Flag(true) != m {
		t.Error("another maker")
	}
	m.Text(strings.Repeat("x", api.MaxCode))
	if m.Num(1) != m || m.Text("a") != m || m.Flag(true) != m {
		t.Error("another maker, where the code is too long")
	}
	if cells.New() == cells.New() {
		t.Error("New answers one maker twice")
	}
}

// P1.2, R3
func TestMakerGoesOnBehindDone(t *testing.T) {
	m := cells.New().Num(1)
	first := done(t, m)
	again := done(t, m)
	if string(first) != "\x01" || string(again) != "\x01" {
		t.Errorf("%x, %x", first, again)
	}
	first[0] = 9
	clear(again[:cap(again)])
	second := done(t, m.Text("b"))
	if string(second) != "\x01\x01b" || first[0] != 9 {
		t.Errorf("%x, %x", first, second)
	}
	if spare := again[:cap(again)]; !bytes.Equal(spare, make([]byte, len(spare))) {
		t.Errorf("put into an answer's spare room: %x", spare)
	}
}

// full is a maker with room for left bytes.
func full(left int) *cells.Maker {
	size := api.MaxCode - left
	return cells.New().Text(strings.Repeat("x", size-4))
}

// P1.2: MaxCode bytes are a code, one more is none.
func TestMakerOfMaxCodeBytes(t *testing.T) {
	for _, left := range []int{0, 1, 2, 3, 9} {
		if b := done(t, full(left)); len(b) != api.MaxCode-left {
			t.Fatal(len(b))
		}
	}
	fit := []*cells.Maker{full(1).Num(0), full(1).Num(-1), full(1).Flag(true), full(1).Text(""), full(2).Num(128), full(2).Text("a"), full(9).Num(math.MaxInt), full(9).Num(math.MinInt), full(0)}
	for i, m := range fit {
		if b := done(t, m); len(b) != api.MaxCode {
			t.Errorf("%d: %d bytes", i, len(b))
		}
	}
	over := []*cells.Maker{full(0).Num(0), full(0).Num(-1), full(0).Flag(false), full(0).Text(""), full(1).Num(128), full(1).Text("a"), full(8).Num(math.MaxInt), full(8).Num(math.MinInt), cells.New().Text(strings.Repeat("x", api.MaxCode)), cells.New().Text(strings.Repeat("x", api.MaxCode-3))}
	for i, m := range over {
		if b, e := m.Done(); len(b) != 0 || e != api.ErrLong {
			t.Errorf("%d: %d bytes, %d", i, len(b), e)
		}
	}
}

// P1.2: what would have fitted is not put any more either.
func TestMakerIsTooLongForGood(t *testing.T) {
	m := full(1).Text("ab").Num(1).Flag(true).Text("")
	for range 2 {
		if b, e := m.Done(); len(b) != 0 || e != api.ErrLong {
			t.Error(len(b), e)
		}
	}
	m = cells.New().Text(strings.Repeat("x", api.MaxCode))
	for range 3 {
		if b, e := m.Num(1).Done(); len(b) != 0 || e != api.ErrLong {
			t.Error(len(b), e)
		}
	}
}

// P1.4
func TestNilMaker(t *testing.T) {
	var m *cells.Maker
	if m.Num(1) != nil || m.Text("a") != nil || m.Flag(true) != nil || m.Num(1).Text("").Flag(false) != nil {
		t.Error("a maker")
	}
	if b, e := m.Done(); len(b) != 0 || e != api.ErrClosed {
		t.Error(b, e)
	}
}
