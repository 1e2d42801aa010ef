package boxes_test

import (
	"math/rand"
	"slices"
	"strconv"
	"strings"
	"testing"

	"entrepot/api"
	"entrepot/boxes"
	"entrepot/lists"
)

func says(t *testing.T, l [][]api.Item, want string) {
	t.Helper()
	if s, e := boxes.List(l); s != want || e != api.OK {
		t.Errorf("List %v = %q, %d, not %q", l, s, e, want)
	}
	if all, e := boxes.Parse(want); !same(all, l) || e != api.OK {
		t.Errorf("Parse %q = %v, %d, not %v", want, all, e, l)
	}
}

// P28.3: by hand.
func TestList(t *testing.T) {
	says(t, nil, "")
	says(t, [][]api.Item{}, "")
	says(t, of("a 1"), "1: a=1\n")
	says(t, of("a 3, b 2; c 1"), "1: a=3 b=2\n2: c=1\n")
	says(t, of("- 10, 0-z 1099511627776; a 1; a 1"), "1: -=10 0-z=1099511627776\n2: a=1\n3: a=1\n")
	says(t, of("abcdefghijklmnop 100"), "1: abcdefghijklmnop=100\n")
	full := lists.Many(0, 16, 1<<40)
	want := ":"
	for _, i := range full {
		want += " " + i.Good + "=1099511627776"
	}
	says(t, [][]api.Item{full, full}, "1"+want+"\n2"+want+"\n")
}

// many are so many boxes, and their list.
func many(n int) ([][]api.Item, string) {
	var l [][]api.Item
	var text strings.Builder
	for i := range n {
		l = append(l, []api.Item{{Good: "a", N: 1 + i%100}})
		text.WriteString(strconv.Itoa(i+1) + ": a=" + strconv.Itoa(1+i%100) + "\n")
	}
	return l, text.String()
}

// P28.3: 4096 boxes, and one more.
func TestListOfTheMost(t *testing.T) {
	for _, n := range []int{9, 10, 11, 99, 100, 101, 4095, 4096} {
		l, s := many(n)
		says(t, l, s)
	}
	for _, n := range []int{4097, 4098, 10000} {
		l, text := many(n)
		if s, e := boxes.List(l); s != "" || e != api.ErrLong {
			t.Error(n, len(s), e)
		}
		noList(t, text)
		// A box that may not be is told first.
		for _, at := range []int{0, 4095, 4096, n - 1} {
			kept := l[at]
			l[at] = nil
			if s, e := boxes.List(l); s != "" || e != api.ErrItems {
				t.Error(n, at, len(s), e)
			}
			l[at] = kept
		}
	}
}

// P28.3
func TestListRefuses(t *testing.T) {
	for _, box := range append(mayNots(), nil, []api.Item{}) {
		for _, l := range [][][]api.Item{{box}, {box, list("a 1")}, {list("a 1"), box}, {list("a 1"), box, list("b 2")}} {
			if s, e := boxes.List(l); s != "" || e != api.ErrItems {
				t.Errorf("List %v = %q, %d", l, s, e)
			}
		}
	}
}

func noList(t *testing.T, s string) {
	t.Helper()
	if l, e := boxes.Parse(s); len(l) != 0 || e != api.ErrCode {
		t.Errorf("Parse %.99q = %v, %d", s, l, e)
	}
}

// P28.3: by hand.
func TestParseRefuses(t *testing.T) {
	for _, s := range []string{
		"\n", " ", "1", "1:", "1:\n", "1: \n", "1: a\n", "1: a=\n", "1: =1\n", "1: a=1", "1: a=1\r\n", "1: a=1 \n", "1:  a=1\n", "1:a=1\n", " 1: a=1\n", "1 : a=1\n", "1: a =1\n", "1: a= 1\n",
		"1: a=0\n", "1: a=01\n", "1: a=+1\n", "1: a=-1\n", "1: a=1_0\n", "1: a=0x1\n", "1: a=1.0\n", "1: a=1=1\n", "1: a=1099511627777\n", "1: a=99999999999999999999\n", "1: a=18446744073709551617\n", "1: a=1e3\n",
		"0: a=1\n", "2: a=1\n", "01: a=1\n", "+1: a=1\n", "-1: a=1\n", "a: a=1\n", ": a=1\n", "1; a=1\n", "1: A=1\n", "1: a_=1\n", "1: abcdefghijklmnopq=1\n", "1: é=1\n",
		"1: b=1 a=1\n", "1: a=1 a=1\n", "1: a=1  b=1\n", "1: a=1,b=1\n", "1: a=1\tb=1\n", "1: a=1 b\n", "1: a=1 =1\n", "1: a=1\n\n", "\n1: a=1\n", "1: a=1\n1: b=1\n", "1: a=1\n3: b=1\n", "1: a=1\n2: b=1", "1: a=1\n2:\n", "2: a=1\n1: a=1\n", "1: a=1\n 2: b=1\n", "1: a=1\n02: b=1\n", "1: a=1\n2: b=1\n2: b=1\n", "1: a=1\x002: b=1\n", "1: a=1\n\x00",
		"1: a=1 1: b=1\n", "1: a=1\n2: b=1\n3", "1: a=1\n2: b=0\n", "1: 1: a=1\n",
		strings.Repeat(" ", 1<<20), strings.Repeat("\n", 1<<20), "1:" + strings.Repeat(" a=1", 1<<18) + "\n",
	} {
		noList(t, s)
	}
	var seventeen strings.Builder
	for _, i := range lists.Many(0, 17, 1) {
		seventeen.WriteString(" " + i.Good + "=1")
	}
	noList(t, "1:"+seventeen.String()+"\n")
	noList(t, "1: a=1\n2:"+seventeen.String()+"\n")
}

// P28.3: each small change of a list makes none, or a list of just what it says.
func TestParseOfAnyText(t *testing.T) {
	r := rand.New(rand.NewSource(283))
	taken := 0
	for _, start := range []string{"1: a=3 b=2\n2: c=1\n", "1: ab-1=100 z=99\n2: a=1\n3: 0=1099511627776\n"} {
		for range 300000 {
			b := []byte(start)
			for range 1 + r.Intn(3) {
				at := r.Intn(len(b))
				switch r.Intn(3) {
				case 0:
					b[at] = "abcz-019:= \n+\x00"[r.Intn(14)]
				case 1:
					b = slices.Delete(b, at, at+1)
				default:
					b = slices.Insert(b, at, "abcz-019:= \n+\x00"[r.Intn(14)])
				}
			}
			l, e := boxes.Parse(string(b))
			if e != api.OK {
				if l != nil || e != api.ErrCode {
					t.Fatal(l, e)
				}
				continue
			}
			taken++
			if s, e := boxes.List(l); s != string(b) || e != api.OK {
				t.Fatalf("%q is told as %q, %d", b, s, e)
			}
		}
	}
	if taken < 10000 {
		t.Error(taken)
	}
}

// P28.3: any boxes.
func TestListAndParse(t *testing.T) {
	r := rand.New(rand.NewSource(284))
	for range 2000 {
		var l [][]api.Item
		for range r.Intn(30) {
			var box []api.Item
			for i := r.Intn(20); len(box) == 0 || i < 40 && len(box) < 16; i += 1 + r.Intn(9) {
				box = append(box, api.Item{Good: "g" + strconv.Itoa(100+i), N: 1 + r.Intn(1<<(1+r.Intn(40)))})
			}
			l = append(l, box)
		}
		s, e := boxes.List(l)
		if e != api.OK || strings.Count(s, "\n") != len(l) {
			t.Fatal(l, s, e)
		}
		if again, e := boxes.Parse(s); !same(again, l) || e != api.OK {
			t.Fatal(l, again, e)
		}
	}
}

// told is one item, and in which box it is.
type told struct {
	box int
	api.Item
}

func collect(l [][]api.Item) []told {
	var all []told
	for box, item := range boxes.All(l) {
		all = append(all, told{box, item})
	}
	return all
}

// P28.3, R5
func TestAll(t *testing.T) {
	l := of("a 3, b 2; c 1; a 1, d 9, e 7")
	want := []told{
		{1, api.Item{Good: "a", N: 3}}, {1, api.Item{Good: "b", N: 2}}, {2, api.Item{Good: "c", N: 1}},
		{3, api.Item{Good: "a", N: 1}}, {3, api.Item{Good: "d", N: 9}}, {3, api.Item{Good: "e", N: 7}},
	}
	all := boxes.All(l)
	for range 3 {
		for stop := range want {
			var got []told
			for box, item := range all {
				got = append(got, told{box, item})
				if len(got) > stop {
					break
				}
			}
			if !slices.Equal(got, want[:stop+1]) {
				t.Error("stopped:", got)
			}
		}
	}
	// What is handed in is not kept.
	l[0][1], l[2] = api.Item{Good: "ruin"}, nil
	var got []told
	for box, item := range all {
		got = append(got, told{box, item})
	}
	if !slices.Equal(got, want) {
		t.Error(got)
	}
}

// P28.3: of boxes that are empty, or may not be, too; and of none.
func TestAllOfAnyBoxes(t *testing.T) {
	if l := collect(nil); len(l) != 0 {
		t.Error(l)
	}
	l := [][]api.Item{nil, list("b 1, a 0"), {}, list("A -1, A -1"), nil}
	want := []told{{2, api.Item{Good: "b", N: 1}}, {2, api.Item{Good: "a", N: 0}}, {4, api.Item{Good: "A", N: -1}}, {4, api.Item{Good: "A", N: -1}}}
	if got := collect(l); !slices.Equal(got, want) {
		t.Error(got)
	}
}

// R3
func TestParseAnswersNewLists(t *testing.T) {
	s := "1: a=3 b=2\n2: c=1\n3: d=1\n"
	l, _ := boxes.Parse(s)
	for i := range l {
		ruin(l[i], api.Item{Good: "ruin", N: 7})
		if !same(l[i+1:], of("a 3, b 2; c 1; d 1")[i+1:]) {
			t.Error(l)
		}
	}
	ruin(l, nil)
	if l, _ := boxes.Parse(s); !same(l, of("a 3, b 2; c 1; d 1")) {
		t.Error(l)
	}
}
