package cells_test

import (
	"bytes"
	"math"
	"math/rand"
	"testing"

	"entrepot/api"
	"entrepot/cells"
)

func text(size int) []byte {
	b := make([]byte, size)
	for i := range b {
		b[i] = byte(i*7 + size)
	}
	return b
}

// P1.6
func TestJoinHasTheCellsOfAllTexts(t *testing.T) {
	long := text(128)
	for _, c := range []struct {
		l    [][]byte
		want string
	}{
		{nil, ""},
		{[][]byte{}, ""},
		{[][]byte{nil}, "\x00"},
		{[][]byte{{}}, "\x00"},
		{[][]byte{[]byte("ab"), nil, []byte("c")}, "\x02ab\x00\x01c"},
		{[][]byte{text(127), long}, "\x7f" + string(text(127)) + "\x81\x80" + string(long)},
	} {
		if b := cells.Join(c.l...); string(b) != c.want {
			t.Errorf("%x, not %x", b, c.want)
		}
	}
}

// P1.6: a list may be longer than a code.
func TestJoinIsNeverTooLong(t *testing.T) {
	one := text(api.MaxCode + 1)
	b := cells.Join(one, one)
	if len(b) != 2*(4+len(one)) {
		t.Fatal(len(b))
	}
	l, e := cells.Split(b)
	if e != api.OK || len(l) != 2 || !bytes.Equal(l[0], one) || !bytes.Equal(l[1], one) {
		t.Error(len(l), e)
	}
}

// P1.6
func TestSplitTakesJoinedTexts(t *testing.T) {
	for _, b := range [][]byte{nil, {}} {
		if l, e := cells.Split(b); len(l) != 0 || e != api.OK {
			t.Error(l, e)
		}
	}
	l, e := cells.Split([]byte("\x00\x02ab\x00\x01c"))
	if e != api.OK || len(l) != 4 || len(l[0]) != 0 || string(l[1]) != "ab" || len(l[2]) != 0 || string(l[3]) != "c" {
		t.Error(l, e)
	}
}

// P1.6
func TestSplitRefusesOtherBytes(t *testing.T) {
	for _, s := range []string{"\x01", "\x02a", "\x00\x01a\x05abcd", "\x90", "\x00\x90a", "\x91\x01a", "\x81\x01a", "\x81\x80a", "\x80", "\xff", "\x01a\xff", "\x88\x7f\xff\xff\xff\xff\xff\xff\xffa"} {
		if l, e := cells.Split([]byte(s)); len(l) != 0 || e != api.ErrCode {
			t.Errorf("%x: %x, %d", s, l, e)
		}
	}
	whole := []byte("\x02ab")
	if l, e := cells.Split(whole[:2]); len(l) != 0 || e != api.ErrCode {
		t.Error("it saw what lies behind the end:", l, e)
	}
}

// P1.5: what Split takes is joined to the same bytes.
func TestSplitIsJoinedAgain(t *testing.T) {
	r := rand.New(rand.NewSource(3))
	taken := 0
	for range 50000 {
		b := make([]byte, r.Intn(6))
		for i := range b {
			b[i] = byte(r.Intn(4))
		}
		l, e := cells.Split(b)
		if e != api.OK {
			continue
		}
		taken++
		if !bytes.Equal(cells.Join(l...), b) {
			t.Fatalf("%x is taken as %x", b, l)
		}
	}
	if taken == 0 {
		t.Error("none taken")
	}
}

// P1.6
func TestPartsCutsBytes(t *testing.T) {
	for _, c := range []struct {
		b    string
		most int
		want []string
	}{
		{"", 3, nil},
		{"abc", 0, nil},
		{"abc", -1, nil},
		{"abc", math.MinInt, nil},
		{"", 0, nil},
		{"abc", 1, []string{"a", "b", "c"}},
		{"abcde", 2, []string{"ab", "cd", "e"}},
		{"abcd", 2, []string{"ab", "cd"}},
		{"abc", 3, []string{"abc"}},
		{"abc", 4, []string{"abc"}},
		{"abc", math.MaxInt, []string{"abc"}},
	} {
		l := cells.Parts([]byte(c.b), c.most)
		if len(l) != len(c.want) {
			t.Errorf("%q by %d: %q", c.b, c.most, l)
			continue
		}
		for i, want := range c.want {
			if string(l[i]) != want {
				t.Errorf("%q by %d: %q", c.b, c.most, l)
			}
		}
	}
	if cells.Parts(nil, 3) != nil {
		t.Error("parts of nil")
	}
}

// apart changes each list, its spare room too, and looks whether another one changed with it.
func apart(t *testing.T, name string, lists ...[]byte) {
	t.Helper()
	for i, l := range lists {
		var before []string
		for _, other := range lists {
			before = append(before, string(other))
		}
		l = l[:cap(l)]
		for j := range l {
			l[j] ^= 0xff
		}
		for j, other := range lists {
			if j != i && string(other) != before[j] {
				t.Errorf("%s: list %d changed with list %d", name, j, i)
			}
		}
	}
}

// R3
func TestListsShareNothing(t *testing.T) {
	a, b := []byte("one"), []byte("two")
	apart(t, "Join", a, b, cells.Join(a, b), cells.Join(a, b), cells.Join(a))
	joined := cells.Join([]byte("one"), []byte("two"), nil)
	l, _ := cells.Split(joined)
	apart(t, "Split", append(l, joined)...)
	whole := []byte("abcdefg")
	apart(t, "Parts", append(cells.Parts(whole, 3), whole)...)
}

// R3: neither what is handed in, nor the room behind its end, is written to.
func TestListsLeaveWhatIsHandedIn(t *testing.T) {
	room := []byte("\x01a\x01bREST")
	b := room[:4]
	cells.Join(b, b[:1])
	cells.Split(b)
	cells.Parts(b, 3)
	cells.First(b)
	cells.Take(b).Text(9)
	if string(room) != "\x01a\x01bREST" {
		t.Errorf("%q", room)
	}
}
