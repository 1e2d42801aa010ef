package cells_test

import (
	"bytes"
	"math"
	"testing"

	"entrepot/api"
	"entrepot/cells"
)

type known struct {
	n    int
	cell string
}

// knownCells are reckoned by hand from the chapter's words.
func knownCells() []known {
	return []known{
		{0, "\x00"},
		{1, "\x01"},
		{5, "\x05"},
		{127, "\x7f"},
		{128, "\x81\x80"},
		{255, "\x81\xff"},
		{256, "\x82\x01\x00"},
		{65535, "\x82\xff\xff"},
		{65536, "\x83\x01\x00\x00"},
		{1<<24 - 1, "\x83\xff\xff\xff"},
		{1 << 24, "\x84\x01\x00\x00\x00"},
		{1 << 32, "\x85\x01\x00\x00\x00\x00"},
		{1 << 40, "\x86\x01\x00\x00\x00\x00\x00"},
		{1<<56 - 1, "\x87\xff\xff\xff\xff\xff\xff\xff"},
		{1 << 56, "\x88\x01\x00\x00\x00\x00\x00\x00\x00"},
		{math.MaxInt, "\x88\x7f\xff\xff\xff\xff\xff\xff\xff"},
		{-1, "\x90"},
		{-2, "\x91\x01"},
		{-128, "\x91\x7f"},
		{-129, "\x91\x80"},
		{-256, "\x91\xff"},
		{-257, "\x92\x01\x00"},
		{-65536, "\x92\xff\xff"},
		{-65537, "\x93\x01\x00\x00"},
		{-1<<56 - 1, "\x98\x01\x00\x00\x00\x00\x00\x00\x00"},
		{math.MinInt, "\x98\x7f\xff\xff\xff\xff\xff\xff\xff"},
	}
}

// manyNumbers are those about each power of two, on both sides of 0.
func manyNumbers() []int {
	var l []int
	for n := -300; n <= 300; n++ {
		l = append(l, n)
	}
	for shift := 9; shift < 63; shift++ {
		for by := -2; by <= 2; by++ {
			l = append(l, 1<<shift+by, -(1<<shift)+by)
		}
	}
	return append(l, math.MaxInt, math.MaxInt-1, math.MinInt, math.MinInt+1)
}

// P1.1
func TestNumHasTheChaptersCells(t *testing.T) {
	for _, k := range knownCells() {
		if b := cells.Num(k.n); string(b) != k.cell {
			t.Errorf("Num(%d) = %x, not %x", k.n, b, k.cell)
		}
	}
}

// P1.1
func TestFirstTellsTheNumberAndItsBytes(t *testing.T) {
	for _, k := range knownCells() {
		for _, behind := range []string{"", "\x00", "\xff\xff", k.cell} {
			n, size, e := cells.First([]byte(k.cell + behind))
			if n != k.n || size != len(k.cell) || e != api.OK {
				t.Errorf("First(%x) = %d, %d, %d", k.cell+behind, n, size, e)
			}
		}
	}
}

// P1.1: what is cut off, longer than need be, greater than an int, or begins with no cell's byte.
func TestFirstRefusesWhatIsNoCell(t *testing.T) {
	wrong := []string{
		"", "\x80", "\x80\x00", "\x81", "\x81\x00", "\x81\x05", "\x81\x7f", "\x82\x80", "\x82\x00\x80", "\x83\x00\x01\x00", "\x88\x00\xff\xff\xff\xff\xff\xff\xff",
		"\x88\x80\x00\x00\x00\x00\x00\x00\x00", "\x88\xff\xff\xff\xff\xff\xff\xff\xff", "\x89\x01\x00\x00\x00\x00\x00\x00\x00\x00",
		"\x91", "\x91\x00", "\x92\x00\x80", "\x92\x01", "\x98\x00\xff\xff\xff\xff\xff\xff\xff", "\x98\x80\x00\x00\x00\x00\x00\x00\x00", "\x98\xff\xff\xff\xff\xff\xff\xff\xff",
		"\x99\x01\x00\x00\x00\x00\x00\x00\x00\x00", "\xa0", "\xa1\x01", "\xff",
	}
	for first := 0x89; first <= 0xff; first++ {
		if first < 0x90 || first > 0x98 {
			wrong = append(wrong, string(append([]byte{byte(first)}, bytes.Repeat([]byte{1}, 130)...)))
		}
	}
	for _, k := range knownCells() {
		wrong = append(wrong, k.cell[:len(k.cell)-1])
	}
	for _, s := range wrong {
		if n, size, e := cells.First([]byte(s)); n != 0 || size != 0 || e != api.ErrCode {
			t.Errorf("First(%x) = %d, %d, %d", s, n, size, e)
		}
	}
}

// P1.1, R3: what lies behind the list's end is not there.
func TestFirstLooksAtTheListAlone(t *testing.T) {
	b := []byte("\x82\x01\x00")
	if _, _, e := cells.First(b[:2]); e != api.ErrCode {
		t.Error("First saw what lies behind the end")
	}
}

// P1.5: each beginning that First takes is what Num makes, and each number is taken.
func TestWhatIsTakenIsMadeToTheSameBytes(t *testing.T) {
	taken := 0
	for i := range 1 << 24 {
		b := []byte{byte(i >> 16), byte(i >> 8), byte(i)}
		n, size, e := cells.First(b)
		if e != api.OK {
			continue
		}
		taken++
		if !bytes.Equal(cells.Num(n), b[:size]) {
			t.Fatalf("%x is taken as %d, which is %x", b[:size], n, cells.Num(n))
		}
	}
	// 128 numbers and -1 have one byte, 128 and 255 of two, 65280 twice of three.
	if want := (128+1)<<16 + (128+255)<<8 + 2*(65536-256); taken != want {
		t.Errorf("%d taken, not %d", taken, want)
	}
	for _, n := range manyNumbers() {
		b := cells.Num(n)
		if back, size, e := cells.First(b); back != n || size != len(b) || e != api.OK {
			t.Errorf("%d is %x, which is taken as %d, %d, %d", n, b, back, size, e)
		}
	}
}

// P1.5
func TestNoCellBeginsAnother(t *testing.T) {
	l := manyNumbers()
	for i, n := range l {
		for _, other := range l[i+1:] {
			a, b := cells.Num(n), cells.Num(other)
			if n != other && (bytes.HasPrefix(a, b) || bytes.HasPrefix(b, a)) {
				t.Errorf("%d is %x, %d is %x", n, a, other, b)
			}
		}
	}
}

// R3
func TestNumIsNewEachTime(t *testing.T) {
	for _, n := range []int{7, 300, -1} {
		want := string(cells.Num(n))
		b := cells.Num(n)
		b[0]++
		clear(b[:cap(b)])
		if string(cells.Num(n)) != want {
			t.Errorf("Num(%d) changed with an answer", n)
		}
	}
}
