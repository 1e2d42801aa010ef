package cells_test

import (
	"math"
	"math/rand"
	"strings"
	"testing"

	"entrepot/api"
	"entrepot/cells"
)

// faulty looks whether a taker is at fault, ahead of being asked for more, and behind.
func faulty(t *testing.T, name string, k *cells.Taker) {
	t.Helper()
	if k.Left() != 0 || k.Done() != api.ErrCode {
		t.Errorf("%s: Left %d, Done %d", name, k.Left(), k.Done())
	}
	for range 2 {
		if n := k.Num(math.MinInt, math.MaxInt); n != 0 {
			t.Errorf("%s: Num %d", name, n)
		}
		if s := k.Text(math.MaxInt); s != "" {
			t.Errorf("%s: Text %q", name, s)
		}
		if k.Flag() {
			t.Errorf("%s: Flag", name)
		}
		if k.Left() != 0 || k.Done() != api.ErrCode {
			t.Errorf("%s: Left %d, Done %d", name, k.Left(), k.Done())
		}
	}
}

// P1.3
func TestTakerTakesCellByCell(t *testing.T) {
	k := cells.Take([]byte("\x07\x91\x06\x02ab\x01\x00\x00"))
	if k.Left() != 9 || k.Done() != api.ErrCode {
		t.Error("whole:", k.Left(), k.Done())
	}
	if n := k.Num(7, 7); n != 7 || k.Left() != 8 {
		t.Error(n, k.Left())
	}
	if n := k.Num(-7, 0); n != -7 || k.Left() != 6 {
		t.Error(n, k.Left())
	}
	if s := k.Text(2); s != "ab" || k.Left() != 3 {
		t.Error(s, k.Left())
	}
	if !k.Flag() || k.Left() != 2 || k.Flag() || k.Left() != 1 || k.Done() != api.ErrCode {
		t.Error("flags:", k.Left(), k.Done())
	}
	if s := k.Text(0); s != "" || k.Left() != 0 || k.Done() != api.OK || k.Done() != api.OK {
		t.Error(s, k.Left(), k.Done())
	}
	k.Num(0, 9)
	faulty(t, "beyond the end", k)
}

// P1.3
func TestTakerOfNothing(t *testing.T) {
	for _, b := range [][]byte{nil, {}} {
		k := cells.Take(b)
		if k.Left() != 0 || k.Done() != api.OK {
			t.Error(k.Left(), k.Done())
		}
		k.Text(9)
		faulty(t, "nothing", k)
	}
}

// P1.3
func TestTakerHoldsTheBounds(t *testing.T) {
	for _, n := range []int{0, 1, 127, 128, -1, -129, math.MaxInt, math.MinInt} {
		b := cells.Num(n)
		if k := cells.Take(b); k.Num(n, n) != n || k.Done() != api.OK {
			t.Error("within:", n)
		}
		bounds := [][2]int{{math.MaxInt, math.MinInt}}
		if n < math.MaxInt {
			bounds = append(bounds, [2]int{n + 1, math.MaxInt})
		}
		if n > math.MinInt {
			bounds = append(bounds, [2]int{math.MinInt, n - 1})
		}
		for _, bound := range bounds {
			k := cells.Take(append(b, b...))
			if x := k.Num(bound[0], bound[1]); x != 0 {
				t.Error("out of bounds:", x)
			}
			faulty(t, "out of bounds", k)
		}
	}
}

// P1.3
func TestTakerRefusesTexts(t *testing.T) {
	long := strings.Repeat("x", 200)
	code, _ := cells.New().Text(long).Num(3).Done()
	if k := cells.Take(code); k.Text(200) != long || k.Num(0, 3) != 3 || k.Done() != api.OK {
		t.Error("a text of 200")
	}
	wrong := []struct {
		name string
		code string
		most int
	}{
		{"longer than most", string(code), 199},
		{"longer than 0", "\x01a", 0},
		{"most below 0", "\x00", -1},
		{"the least most", "\x00\x00", math.MinInt},
		{"cut off", "\x03ab", 9},
		{"cut off at its length", "\x81", 9},
		{"a length below 0", "\x90ab", 9},
		{"a length longer than need be", "\x81\x01a", 9},
		{"the greatest length", "\x88\x7f\xff\xff\xff\xff\xff\xff\xffab", math.MaxInt},
		{"no cell", "\xffab", 9},
		{"nothing", "", 9},
	}
	for _, w := range wrong {
		k := cells.Take([]byte(w.code))
		if s := k.Text(w.most); s != "" {
			t.Errorf("%s: %q", w.name, s)
		}
		faulty(t, w.name, k)
	}
}

// P1.3
func TestTakerRefusesFlags(t *testing.T) {
	for _, code := range []string{"", "\x02", "\x90", "\x7f", "\x81\x01", "\x81", "\xff", "\x82\x01\x00"} {
		k := cells.Take([]byte(code + "\x01")[:len(code)])
		if k.Flag() {
			t.Errorf("%x is a flag", code)
		}
		faulty(t, code, k)
	}
}

// P1.3, P1.5
func TestTakerRefusesCellsThatNobodyMakes(t *testing.T) {
	for _, code := range []string{"\x81\x7f", "\x82\x00\x80", "\x80", "\x91\x00", "\x88\x80\x00\x00\x00\x00\x00\x00\x00", "\x89\x01", "\xff"} {
		k := cells.Take([]byte(code))
		if n := k.Num(math.MinInt, math.MaxInt); n != 0 {
			t.Errorf("%x is %d", code, n)
		}
		faulty(t, code, k)
	}
}

// R3: it looks at what it was given alone, and keeps bytes of its own.
func TestTakerKeepsItsOwnBytes(t *testing.T) {
	b := []byte("\x07\x02abc")
	k := cells.Take(b[:4:5])
	b[0], b[2] = 9, 'z'
	if k.Num(0, 99) != 7 || k.Text(9) != "ab" || k.Left() != 0 || k.Done() != api.OK {
		t.Error("it changed with what was handed in")
	}
	if string(b) != "\x09\x02zbc" {
		t.Errorf("what was handed in changed: %q", b)
	}
}

// P1.4
func TestNilTaker(t *testing.T) {
	var k *cells.Taker
	if k.Num(0, 9) != 0 || k.Num(3, 3) != 0 || k.Text(9) != "" || k.Flag() || k.Left() != 0 || k.Done() != api.ErrClosed {
		t.Error(k.Left(), k.Done())
	}
}

// P1.5: a code of all kinds of cells, by numbers that are the same in each run.
func TestWhatWasMadeIsTaken(t *testing.T) {
	r := rand.New(rand.NewSource(1))
	for range 300 {
		var nums []int
		var texts []string
		m := cells.New()
		for range r.Intn(20) {
			n := int(r.Uint64()) >> r.Intn(64)
			s := strings.Repeat("t", r.Intn(300))
			nums, texts = append(nums, n), append(texts, s)
			m.Num(n).Text(s).Flag(n%2 == 0)
		}
		b := done(t, m)
		k, again := cells.Take(b), cells.New()
		for i, n := range nums {
			x, s, f := k.Num(n, n), k.Text(len(texts[i])), k.Flag()
			if x != n || s != texts[i] || f != (n%2 == 0) {
				t.Fatal(x, s, f)
			}
			again.Num(x).Text(s).Flag(f)
		}
		if k.Done() != api.OK || string(done(t, again)) != string(b) {
			t.Fatal("not the same bytes")
		}
	}
}

// P1.5: a code of MaxCode bytes is taken whole.
func TestTheLongestCodeIsTaken(t *testing.T) {
	k := cells.Take(done(t, full(0)))
	if s := k.Text(api.MaxCode); len(s) != api.MaxCode-4 || k.Done() != api.OK {
		t.Error(len(s), k.Done())
	}
}

// R1: no bytes, and no bounds, make a taker panic.
func TestTakerEndsOnAnyBytes(t *testing.T) {
	r := rand.New(rand.NewSource(2))
	for range 20000 {
		b := make([]byte, r.Intn(24))
		r.Read(b)
		k := cells.Take(b)
		for range 5 {
			switch r.Intn(3) {
			case 0:
				least := int(r.Uint64())
				if n := k.Num(least, math.MaxInt); n != 0 && n < least {
					t.Fatal(n, least)
				}
			case 1:
				most := r.Intn(20) - 2
				if s := k.Text(most); len(s) > max(most, 0) {
					t.Fatal(s, most)
				}
			case 2:
				k.Flag()
			}
			if k.Left() > len(b) {
				t.Fatal(k.Left())
			}
		}
	}
}
