package ident_test

import (
	"math"
	"slices"
	"strconv"
	"testing"

	"entrepot/api"
	"entrepot/ident"
)

// P9.1: the chapter's example.
func TestExample(t *testing.T) {
	x := ident.New()
	asked(t, x, 3, 1, "x", api.VerdictNew, api.Answer{})
	asked(t, x, 3, 1, "y", api.VerdictClash, api.Answer{})
	a := api.Answer{Client: 3, Number: 1, Code: api.ErrLess, N: 131}
	told(t, x, a, api.OK)
	asked(t, x, 3, 1, "x", api.VerdictDone, a)
}

func TestOfNothing(t *testing.T) {
	has(t, "new", ident.New())
	if string(ident.New().Pack()) != "\x00" {
		t.Error("its code")
	}
	if ident.New() == ident.New() {
		t.Error("New answers one table twice")
	}
}

// P9.1: what may not be gets no verdict, and nothing is known of it.
func TestAskOfWhatMayNotBe(t *testing.T) {
	x, l := mixed(t)
	for _, client := range []int{math.MinInt, -1, 64, 65, 1 << 32, math.MaxInt} {
		asked(t, x, client, 1, "a", 0, api.Answer{})
	}
	for _, number := range []int{math.MinInt, -1, 0, most + 1, 1 << 40, math.MaxInt} {
		asked(t, x, 3, number, "a", 0, api.Answer{})
		asked(t, x, 9, number, "a", 0, api.Answer{})
	}
	has(t, "behind", x, l...)
	fresh(t, x, 63, "", 1)
	fresh(t, x, 0, "", most)
}

// P9.1: below the mark nothing else is looked at.
func TestAskBelowTheMark(t *testing.T) {
	x := ident.New()
	fresh(t, x, 5, "a", 9, 10)
	told(t, x, api.Answer{Client: 5, Number: 9}, api.OK)
	low(t, x, 5, 10, api.OK)
	for _, number := range []int{1, 8, 9} {
		asked(t, x, 5, number, "a", api.VerdictStale, api.Answer{})
		asked(t, x, 5, number, "b", api.VerdictStale, api.Answer{})
	}
	asked(t, x, 5, 10, "a", api.VerdictOpen, api.Answer{})
	for i := range 127 {
		fresh(t, x, 5, "a", 11+i)
	}
	asked(t, x, 5, 9, "a", api.VerdictStale, api.Answer{})
	asked(t, x, 6, 9, "a", api.VerdictNew, api.Answer{})
}

// P9.1: 128 are known of a client, and no more; those are still told from others.
func TestAskOfMany(t *testing.T) {
	x := ident.New()
	for i := range 128 {
		if n := x.Len(7); n != i {
			t.Fatal(n)
		}
		fresh(t, x, 7, strconv.Itoa(i), 2*i+1)
	}
	answer := api.Answer{Client: 7, Number: 3, Code: 3, N: 4}
	told(t, x, answer, api.OK)
	for range 2 {
		for _, number := range []int{2, 256, 257, most} {
			asked(t, x, 7, number, "a", api.VerdictFull, api.Answer{})
		}
	}
	asked(t, x, 7, 1, "0", api.VerdictOpen, api.Answer{})
	asked(t, x, 7, 3, "1", api.VerdictDone, answer)
	asked(t, x, 7, 255, "0", api.VerdictClash, api.Answer{})
	asked(t, x, 7, 0, "a", 0, api.Answer{})
	if n := x.Len(7); n != 128 {
		t.Error(n)
	}
	fresh(t, x, 8, "a", 2)
	// What is done and still known takes room as well.
	told(t, x, api.Answer{Client: 7, Number: 1}, api.OK)
	asked(t, x, 7, 2, "a", api.VerdictFull, api.Answer{})
	low(t, x, 7, 2, api.OK)
	fresh(t, x, 7, "a", 2)
	asked(t, x, 7, 4, "a", api.VerdictFull, api.Answer{})
}

// P9.1: bodies are told from one another by all their bytes.
func TestAskOfLikeBodies(t *testing.T) {
	x := ident.New()
	bodies := []string{"", "\x00", "\x00\x00", "a", "b", "ab", "ba", "aaaaaaaa", "aaaaaaaaa", "aaaaaaaab"}
	for i, body := range bodies {
		fresh(t, x, 1, body, i+1)
	}
	for i, body := range bodies {
		for _, other := range bodies {
			verdict := api.VerdictClash
			if other == body {
				verdict = api.VerdictOpen
			}
			asked(t, x, 1, i+1, other, verdict, api.Answer{})
		}
	}
	if v, _ := x.Ask(1, 1, nil); v != api.VerdictOpen {
		t.Error("nil is another than empty:", v)
	}
}

// P9.1, R2
func TestTellErrors(t *testing.T) {
	x, l := mixed(t)
	for _, a := range []api.Answer{
		{Client: -1, Number: 1}, {Client: 64, Number: 1}, {Client: 3, Number: 0}, {Client: 3, Number: -5}, {Client: 3, Number: most + 1},
		{Client: 3, Number: 5, Code: -1}, {Client: 3, Number: 5, Code: 1001}, {Client: 3, Number: 5, Code: math.MaxInt}, {Client: 3, Number: 5, Code: math.MinInt},
		// Ahead of ErrNone, and of ErrTwice.
		{Client: 3, Number: 6, Code: 1001}, {Client: 3, Number: 128, Code: -1}, {Client: 12, Number: 1, Code: -1},
	} {
		told(t, x, a, api.ErrArg)
	}
	for _, a := range []api.Answer{{Client: 3, Number: 6}, {Client: 3, Number: 1}, {Client: 0, Number: 1}, {Client: 9, Number: 1}, {Client: 9, Number: most}, {Client: 12, Number: 1}, {Client: 62, Number: most}} {
		told(t, x, a, api.ErrNone)
	}
	for _, n := range []int{-5, 0, 6} {
		told(t, x, api.Answer{Client: 3, Number: 128, Code: 1000, N: n}, api.ErrTwice)
	}
	has(t, "behind", x, l...)
}

// P9.1: codes from 0 to 1000, with whatever N.
func TestTell(t *testing.T) {
	x := ident.New()
	want := line{client: 2, mark: 1}
	for i, n := range []int{0, 1, -1, math.MaxInt, math.MinInt} {
		for j, c := range []api.Errno{0, 1, 91, 999, 1000} {
			s := seen{10*i + j + 1, "q", true, c, n}
			fresh(t, x, 2, "q", s.number)
			told(t, x, s.answer(2), api.OK)
			want.seen = append(want.seen, s)
		}
	}
	has(t, "told", x, want)
	told(t, x, want.seen[0].answer(2), api.ErrTwice)
}

// P9.2, R2
func TestLowErrors(t *testing.T) {
	x, l := mixed(t)
	for _, client := range []int{math.MinInt, -1, 64, math.MaxInt} {
		low(t, x, client, 1, api.ErrArg)
	}
	for _, mark := range []int{math.MinInt, -1, 0, most + 2, math.MaxInt} {
		low(t, x, 3, mark, api.ErrArg)
		low(t, x, 12, mark, api.ErrArg)
	}
	// Done ones, and open ones behind it, are not in the way of a mark; what lies below it is.
	for _, mark := range []int{6, 128, 129, 700, 701, most + 1} {
		low(t, x, 3, mark, api.ErrState)
	}
	low(t, x, 63, most+1, api.ErrState)
	low(t, x, 0, 3, api.ErrState)
	has(t, "behind", x, l...)
}

// P9.2: a mark goes up alone, and what is below it is not known any more.
func TestLow(t *testing.T) {
	x, l := mixed(t)
	for _, mark := range []int{1, 2} {
		low(t, x, 0, mark, api.OK)
	}
	for _, mark := range []int{1, 500, most, most + 1} {
		low(t, x, 9, mark, api.OK)
	}
	low(t, x, 12, 1, api.OK)
	has(t, "no higher", x, l...)

	low(t, x, 3, 5, api.OK)
	l[1].mark = 5
	has(t, "5", x, l...)
	told(t, x, api.Answer{Client: 3, Number: 5, Code: 4, N: 1}, api.OK)
	low(t, x, 3, 128, api.OK)
	l[1].mark, l[1].seen = 128, l[1].seen[1:]
	has(t, "128", x, l...)
	low(t, x, 3, 700, api.OK)
	l[1].mark, l[1].seen = 700, l[1].seen[1:]
	has(t, "700", x, l...)
	low(t, x, 3, 699, api.OK)
	has(t, "699", x, l...)
	told(t, x, api.Answer{Client: 3, Number: 700}, api.OK)
	low(t, x, 3, most+1, api.OK)
	low(t, x, 12, 2, api.OK)
	has(t, "at last", x, l[0], line{3, most + 1, nil}, line{9, most + 1, nil}, line{12, 2, nil}, l[3])
	asked(t, x, 3, most, "a", api.VerdictStale, api.Answer{})
}

// P9.2, R5: as it is when it is ranged over; it begins anew, and may be stopped.
func TestOpen(t *testing.T) {
	x := ident.New()
	open := x.Open()
	fresh(t, x, 9, "", 2, 1)
	fresh(t, x, 1, "", 200, 30)
	fresh(t, x, 63, "", 1)
	told(t, x, api.Answer{Client: 9, Number: 1}, api.OK)
	for range 2 {
		var l [][2]int
		for client, number := range open {
			l = append(l, [2]int{client, number})
		}
		if !slices.Equal(l, [][2]int{{1, 30}, {1, 200}, {9, 2}, {63, 1}}) {
			t.Error(l)
		}
	}
	for most := range 4 {
		met := 0
		for range open {
			if met++; met > most {
				break
			}
		}
		if met != most+1 {
			t.Error(met)
		}
	}
	told(t, x, api.Answer{Client: 1, Number: 30}, api.OK)
	told(t, x, api.Answer{Client: 63, Number: 1}, api.OK)
	if s := pairs(x); s != "1 200, 9 2" {
		t.Error(s)
	}
}

// R3: a body is the caller's.
func TestBodiesAreNotKept(t *testing.T) {
	x := ident.New()
	b := []byte("body and more")
	room := slices.Clone(b)
	if v, _ := x.Ask(1, 1, b[:4]); v != api.VerdictNew || !slices.Equal(b, room) {
		t.Error(v, b)
	}
	clear(b)
	asked(t, x, 1, 1, "body", api.VerdictOpen, api.Answer{})
}

// P9.2
func TestNilTable(t *testing.T) {
	var x *ident.Table
	for _, client := range []int{-1, 0, 3, 64} {
		asked(t, x, client, 1, "a", 0, api.Answer{})
		told(t, x, api.Answer{Client: client, Number: 1}, api.ErrClosed)
		low(t, x, client, 1, api.ErrClosed)
		low(t, x, client, 0, api.ErrClosed)
		if x.Mark(client) != 0 || x.Len(client) != 0 {
			t.Error("it has something of", client)
		}
	}
	if s := pairs(x); s != "" {
		t.Error(s)
	}
	if b := x.Pack(); b != nil {
		t.Error(b)
	}
}
