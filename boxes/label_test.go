package boxes_test

import (
	"math"
	"math/big"
	"math/rand"
	"strconv"
	"strings"
	"testing"

	"entrepot/api"
	"entrepot/boxes"
)

// written is a label as the chapter tells it, with numbers of any length.
func written(order, region, box int) string {
	pad := func(n, places int) string {
		s := strconv.Itoa(n)
		for len(s) < places {
			s = "0" + s
		}
		return s
	}
	n, _ := new(big.Int).SetString(pad(order, 13)+pad(region, 1)+pad(box, 4), 10)
	n.Mul(n, big.NewInt(100))
	rest := int(n.Mod(n, big.NewInt(97)).Int64())
	return "E" + pad(order, 13) + "-" + pad(region, 1) + pad(box, 4) + pad(98-rest, 2)
}

func labels(t *testing.T, order, region, box int, want string) {
	t.Helper()
	if s, e := boxes.Label(order, region, box); s != want || e != api.OK {
		t.Errorf("Label(%d, %d, %d) = %q, %d, not %q", order, region, box, s, e, want)
	}
	if o, r, b, e := boxes.Read(want); o != order || r != region || b != box || e != api.OK {
		t.Errorf("Read(%q) = %d, %d, %d, %d", want, o, r, b, e)
	}
}

func noLabel(t *testing.T, s string) {
	t.Helper()
	if o, r, b, e := boxes.Read(s); o != 0 || r != 0 || b != 0 || e != api.ErrLabel {
		t.Errorf("Read(%q) = %d, %d, %d, %d", s, o, r, b, e)
	}
}

// P28.2: the chapter's example, and checks that were reckoned by hand.
func TestLabel(t *testing.T) {
	labels(t, 64, 1, 1, "E0000000000064-1000154")
	// 100 times 100001 is 97 times 103093, and 79.
	labels(t, 1, 0, 1, "E0000000000001-0000119")
	labels(t, 1, 0, 4096, written(1, 0, 4096))
	labels(t, api.MaxOrder, 7, 4096, "E1099511627776-74096"+written(api.MaxOrder, 7, 4096)[20:])
}

// P28.2: all edges, and any between.
func TestLabelAndRead(t *testing.T) {
	r := rand.New(rand.NewSource(282))
	orders := []int{1, 2, 9, 10, 64, 99, 1 << 20, 999999999999, 1000000000000, 1<<40 - 1, 1 << 40}
	for range 3000 {
		orders = append(orders, 1+r.Intn(1<<(1+r.Intn(40))))
	}
	checks := map[string]int{}
	for _, order := range orders {
		for region := range 8 {
			for _, box := range []int{1, 9, 10, 99, 100, 999, 1000, 4095, 4096, 1 + r.Intn(4096)} {
				s := written(order, region, box)
				labels(t, order, region, box, s)
				checks[s[20:]]++
			}
		}
	}
	for n := range 100 {
		s := strconv.Itoa(n + 100)[1:]
		if is := n >= 2 && n <= 98; is != (checks[s] > 0) {
			t.Error(s, checks[s])
		}
	}
}

// P28.2
func TestLabelRefuses(t *testing.T) {
	far := []int{math.MinInt, -1 << 40, -1, math.MaxInt}
	refused := func(order, region, box int) {
		t.Helper()
		if s, e := boxes.Label(order, region, box); s != "" || e != api.ErrArg {
			t.Errorf("Label(%d, %d, %d) = %q, %d", order, region, box, s, e)
		}
	}
	for _, n := range append(far, 0, 1<<40+1, 9999999999999) {
		refused(n, 0, 1)
		refused(n, n, n)
	}
	for _, n := range append(far, 8, 9, 10) {
		refused(1, n, 1)
		refused(1<<40, n, 4096)
	}
	for _, n := range append(far, 0, 4097, 9999, 10000) {
		refused(1, 0, n)
		refused(1<<40, 7, n)
	}
}

// P28.2: texts that are like labels, with a check that is right, but of what may not be.
func TestReadRefusesWhatMayNotBe(t *testing.T) {
	for _, s := range []string{written(0, 1, 1), written(1<<40+1, 1, 1), written(9999999999999, 0, 1), written(64, 8, 1), written(64, 9, 1), written(64, 1, 0), written(64, 1, 4097), written(64, 1, 9999), written(0, 0, 0)} {
		noLabel(t, s)
	}
}

// P28.2
func TestReadRefusesOtherTexts(t *testing.T) {
	s := "E0000000000064-1000154"
	for _, other := range []string{
		"", "E", " " + s, s + " ", s + "\n", s + "0", "0" + s, s + s, s[1:], s[:21], s[:14] + s[15:], s[:14] + "-" + s[14:], strings.ToLower(s), "F" + s[1:], "e" + s[1:],
		s[:14] + "0" + s[15:], s[:14] + "+" + s[15:], s[:14] + " " + s[15:], "E+000000000064-1000154", "E-000000000064-1000154", "E           64-1000154",
		"E0000000000064-1+00154", "E0000000000064-1 00154", "E0000000000064-1-00154", "E0000000000064--000154", "E0000000000064-+000154", "E00000000_0064-1000154", "E0x00000000040-1000154",
		"E0000000000064-10001 54", "E0000000000064-1000101", "E0000000000064-1000100", "E0000000000064-1000199", "E\u0660\u0660\u0660\u0660\u0660\u066064-1000154",
		strings.Repeat("0", 22), strings.Repeat("\x00", 22), strings.Repeat("9", 22), strings.Repeat("E", 1<<16), "E0000000000000-0000098", "E0000000000000-0000001",
	} {
		noLabel(t, other)
	}
	// Another byte, wherever it stands; one more, one fewer.
	for at := range s {
		for b := range 256 {
			if byte(b) != s[at] {
				noLabel(t, s[:at]+string([]byte{byte(b)})+s[at+1:])
			}
			noLabel(t, s[:at]+string([]byte{byte(b)})+s[at:])
		}
		noLabel(t, s[:at]+s[at+1:])
		noLabel(t, s[:at])
	}
}

// P28.5: one digit is another; two digits side by side, which are unlike, have changed places.
func TestLabelsKnowWhatIsWrong(t *testing.T) {
	r := rand.New(rand.NewSource(285))
	for range 2000 {
		s := written(1+r.Intn(1<<(1+r.Intn(40))), r.Intn(8), 1+r.Intn(4096))
		for at := 1; at < 22; at++ {
			if at == 14 {
				continue
			}
			for digit := byte('0'); digit <= '9'; digit++ {
				if digit != s[at] {
					noLabel(t, s[:at]+string([]byte{digit})+s[at+1:])
				}
			}
			if at < 21 && at != 13 && s[at] != s[at+1] {
				noLabel(t, s[:at]+string([]byte{s[at+1], s[at]})+s[at+2:])
			}
			// The dash does not keep digits from being side by side.
			if at == 13 && s[13] != s[15] {
				noLabel(t, s[:13]+s[15:16]+"-"+s[13:14]+s[16:])
			}
		}
	}
}
