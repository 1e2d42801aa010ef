package model_test

import (
	"math"
	"slices"
	"testing"

	"entrepot/api"
	"entrepot/asks"
	"entrepot/lists"
	"entrepot/model"
)

// P25.1: the first answer that is of the client and the number says it.
func TestState(t *testing.T) {
	const sure, refused, open = 1, 2, 3
	mine := func(l ...api.Errno) []api.Answer {
		var answers []api.Answer
		for _, e := range l {
			answers = append(answers, answer(3, 2, e))
		}
		return answers
	}
	for _, c := range []struct {
		answers []api.Answer
		want    int
	}{
		{nil, open},
		{[]api.Answer{}, open},
		{mine(api.OK), sure},
		{mine(api.ErrClash), open}, {mine(api.ErrStale), open}, {mine(api.ErrFull), open},
		{mine(api.OK, api.ErrLess), sure}, {mine(api.OK, api.ErrClash, api.ErrLess), sure},
		{mine(api.ErrLess, api.OK), refused}, {mine(api.ErrWait, api.OK, api.OK), refused}, {mine(api.ErrNone, api.ErrFull), refused},
		{mine(api.ErrClash, api.OK), open}, {mine(api.ErrFull, api.ErrLess), open}, {mine(api.ErrStale, api.ErrStale, api.OK), open},
		{[]api.Answer{answer(2, 2, api.OK), answer(3, 3, api.OK), answer(2, 3, api.ErrLess)}, open},
		{[]api.Answer{answer(2, 2, api.ErrLess), answer(3, 3, api.ErrClash), answer(3, 2, api.OK), answer(3, 2, api.ErrLess)}, sure},
		{[]api.Answer{answer(3, 1, api.OK), answer(3, 2, api.ErrState), answer(3, 2, api.OK)}, refused},
		{[]api.Answer{{Client: 3, Number: 2, N: -7}}, sure},
		{[]api.Answer{{Client: 3, Number: 2, Code: api.ErrHeld, N: 7}}, refused},
	} {
		if n := model.State(3, 2, c.answers); n != c.want {
			t.Errorf("%v: %d, not %d", c.answers, n, c.want)
		}
	}
}

// P25.1: all codes but four are refusals.
func TestStateOfCodes(t *testing.T) {
	for e := api.Errno(-10); e <= 1010; e++ {
		want := 2
		switch e {
		case 0:
			want = 1
		case 90, 91, 2:
			want = 3
		}
		if n := model.State(0, 1, []api.Answer{answer(0, 1, e)}); n != want {
			t.Errorf("%d: %d, not %d", e, n, want)
		}
	}
	for _, e := range []api.Errno{math.MinInt, math.MaxInt} {
		if n := model.State(0, 1, []api.Answer{answer(0, 1, e)}); n != 2 {
			t.Errorf("%d: %d", e, n)
		}
	}
}

// P25.1: whoever the client is, and whichever the number.
func TestStateOfAnyone(t *testing.T) {
	numbers := []int{math.MinInt, -1, 0, 1, 64, math.MaxInt}
	var answers []api.Answer
	for _, client := range numbers {
		for _, number := range numbers {
			if n := model.State(client, number, answers); n != 3 {
				t.Error(client, number, n)
			}
			answers = append(answers, answer(client, number, api.ErrLess))
			if n := model.State(client, number, answers); n != 2 {
				t.Error(client, number, n)
			}
		}
	}
}

// P25.1: a group is plain, if all have the same body.
func TestPlain(t *testing.T) {
	all := each()
	for i, a := range all {
		for j, b := range all {
			if is := model.Plain(3, 2, []api.Ask{a, b}); is != (i == j) {
				t.Error(a, b, is)
			}
			if is := model.Plain(3, 2, []api.Ask{a, a, b}); is != (i == j) {
				t.Error("the last one:", a, b, is)
			}
			// Of others it may be whichever.
			others := []api.Ask{with(b, 2, 2), a, with(b, 3, 3), a, with(b, 2, 3)}
			if !model.Plain(3, 2, others) || !model.Plain(3, 1, others) || model.Plain(3, 2, append(others, b)) != (i == j) {
				t.Error("among others:", a, b)
			}
		}
	}
	if !model.Plain(3, 2, nil) || !model.Plain(3, 2, []api.Ask{}) || !model.Plain(-1, math.MinInt, all) || model.Plain(3, 2, all) {
		t.Error("of none, or of all")
	}
}

// with is a request of another client, and with another number.
func with(a api.Ask, client, number int) api.Ask {
	a.Client, a.Number = client, number
	return a
}

// P25.1: each field is of the body.
func TestPlainOfEachField(t *testing.T) {
	for _, c := range [][2]api.Ask{
		{asks.Order(3, 2, "a 5", 0), asks.Order(3, 2, "a 5", 1)},
		{asks.Order(3, 2, "a 5", 0), asks.Order(3, 2, "a 6", 0)},
		{asks.Order(3, 2, "a 5", 0), asks.Order(3, 2, "b 5", 0)},
		{asks.Order(3, 2, "a 5", 0), asks.Order(3, 2, "a 5, b 1", 0)},
		{cancel(3, 2, 67), cancel(3, 2, 131)},
		{cancel(3, 2, 67), ship(3, 2, 67)},
		{asks.Return(3, 2, 67, 1, "a 5"), asks.Return(3, 2, 67, 2, "a 5")},
		{asks.Return(3, 2, 67, 1, "a 5"), asks.Return(3, 2, 66, 1, "a 5")},
		{asks.Receive(3, 2, 1, "a 5"), asks.Goods(api.AskScrap, 3, 2, 1, "a 5")},
		{asks.Move(3, 2, 1, 2, "a 5"), asks.Move(3, 2, 1, 3, "a 5")},
		{asks.Move(3, 2, 1, 2, "a 5"), asks.Move(3, 2, 0, 2, "a 5")},
		{asks.Count(3, 2, 1, "a", 5), asks.Count(3, 2, 1, "a", 6)},
		{asks.Count(3, 2, 1, "a", 5), asks.Count(3, 2, 1, "b", 5)},
		{asks.Low(3, 2, 5), asks.Low(3, 2, 6)},
	} {
		if !model.Plain(3, 2, c[:1]) || !model.Plain(3, 2, c[1:]) || model.Plain(3, 2, c[:]) {
			t.Error(c)
		}
	}
	// An empty list is none.
	low := asks.Low(3, 2, 5)
	low.Items = []api.Item{}
	if !model.Plain(3, 2, []api.Ask{low, asks.Low(3, 2, 5), low}) {
		t.Error("an empty list")
	}
}

// P25.1: requests that may not be are passed over, by all.
func TestRequestsThatMayNotBe(t *testing.T) {
	one := asks.Order(3, 2, "a 5, b 1", 1)
	for _, no := range append(broken(3, 2), nobody()...) {
		for _, l := range [][]api.Ask{{no}, {no, no}} {
			if !model.Plain(no.Client, no.Number, l) || len(model.Orders(l)) != 0 || len(slices.Collect(model.Goods(l))) != 0 || len(model.Wanted(64*no.Number+no.Client, l)) != 0 {
				t.Error("alone:", no)
			}
			if r := model.Span(no.Kind, "x", l, []api.Answer{answer(no.Client, no.Number, api.OK)}); r != (api.Range{}) {
				t.Error("alone:", no, r)
			}
		}
		for _, l := range [][]api.Ask{{one, no}, {no, one}, {no, one, no, one}} {
			if !model.Plain(3, 2, l) {
				t.Error("not plain:", l)
			}
			if got := model.Orders(l); !slices.Equal(got, []int{131}) {
				t.Error(l, got)
			}
			if got := model.Wanted(131, l); !slices.Equal(got, one.Items) {
				t.Error(l, got)
			}
			if got := slices.Collect(model.Goods(l)); !slices.Equal(got, []string{"a", "b"}) {
				t.Error(l, got)
			}
			l = append(l, ship(5, 1, 131))
			for _, good := range []string{"x", "y", "X", ""} {
				for kind := range 13 {
					if r := model.Span(kind, good, l, nil); r != (api.Range{}) {
						t.Error(l, kind, good, r)
					}
				}
			}
			if r := model.Span(api.AskShip, "a", l, nil); r != (api.Range{Most: 5}) {
				t.Error(l, r)
			}
		}
	}
}

// P25.1: of the first request that makes the order.
func TestWanted(t *testing.T) {
	l := append(each(), asks.Order(3, 2, "c 7", 0), asks.Order(0, 1, "d 1", 1), asks.Order(63, api.MaxNumber, "e 2", 0), asks.Order(3, 2, "a 9", 1), asks.Order(2, 2, "f 3", 1))
	for _, c := range []struct {
		order int
		l     []api.Ask
		want  string
	}{
		{131, l, "a 5, b 1"}, {131, l[1:], "c 7"}, {131, l[12:], "a 9"}, {131, l[15:], ""},
		{64, l, "d 1"}, {64*api.MaxNumber + 63, l, "e 2"}, {130, l, "f 3"},
		{0, l, ""}, {0, each()[1:], ""}, {-1, l, ""}, {1, l, ""}, {2, l, ""}, {3, l, ""}, {132, l, ""}, {129, l, ""}, {67, l, ""}, {63, l, ""},
		{math.MinInt, l, ""}, {math.MaxInt, l, ""}, {api.MaxOrder, l, ""},
		{131, nil, ""}, {0, nil, ""},
	} {
		if got := model.Wanted(c.order, c.l); !slices.Equal(got, lists.Of(c.want)) {
			t.Errorf("%d: %v, not %s", c.order, got, c.want)
		}
	}
}

// P25.1
func TestOrders(t *testing.T) {
	for _, c := range []struct {
		l    []api.Ask
		want []int
	}{
		{nil, nil},
		{each()[1:], nil},
		{each(), []int{131}},
		{[]api.Ask{asks.Order(5, 9, "a 1", 1), asks.Order(3, 2, "a 1", 1), cancel(4, 4, 77), asks.Order(0, 1, "a 1", 0), asks.Order(5, 9, "b 2", 0), asks.Order(3, 2, "a 1", 1), asks.Order(4, 9, "a 1", 1)}, []int{64, 131, 580, 581}},
		{[]api.Ask{asks.Order(63, api.MaxNumber, "a 1", 1), asks.Order(0, api.MaxNumber, "a 1", 1)}, []int{1 << 38, 1<<38 + 63}},
	} {
		if got := model.Orders(c.l); !slices.Equal(got, c.want) {
			t.Errorf("%v: %v, not %v", c.l, got, c.want)
		}
	}
}

// P25.1: of all Items, and of AskCounts.
func TestGoods(t *testing.T) {
	names := map[int][]string{api.AskCancel: nil, api.AskPick: nil, api.AskShip: nil, api.AskLow: nil, api.AskCount: {"a"}}
	for _, a := range each() {
		want, is := names[a.Kind]
		if !is {
			want = []string{"a", "b"}
		}
		for _, l := range [][]api.Ask{{a}, {a, a}} {
			if got := slices.Collect(model.Goods(l)); !slices.Equal(got, want) {
				t.Errorf("%v: %v, not %v", l, got, want)
			}
		}
	}
	l := []api.Ask{receive(1, "m 1, z 1"), asks.Count(1, 2, 0, "aa", 0), asks.Order(1, 3, "- 1, z 2", 0), asks.Count(1, 4, 0, "m", 5), asks.Move(1, 5, 0, 1, "0 1, a 1, ab 7")}
	if got := slices.Collect(model.Goods(l)); !slices.Equal(got, []string{"-", "0", "a", "aa", "ab", "m", "z"}) {
		t.Error(got)
	}
	if got := slices.Collect(model.Goods(nil)); len(got) != 0 {
		t.Error(got)
	}
}

// R5, R3: each time anew, stopped anywhere, and as it was asked for, whatever becomes of the requests.
func TestGoodsAreGoneOver(t *testing.T) {
	l := []api.Ask{receive(1, "b 1, d 1"), asks.Count(1, 2, 0, "c", 0), asks.Order(1, 3, "a 1, d 2", 0)}
	all := model.Goods(l)
	want := []string{"a", "b", "c", "d"}
	for range 20 {
		if got := slices.Collect(all); !slices.Equal(got, want) {
			t.Fatal(got)
		}
	}
	for stop := range want {
		var got []string
		for good := range all {
			got = append(got, good)
			if len(got) > stop {
				break
			}
		}
		if !slices.Equal(got, want[:stop+1]) {
			t.Error("stopped:", got)
		}
	}
	l[0].Items[0].Good, l[1].Good = "q", "q"
	l[2] = api.Ask{}
	if got := slices.Collect(all); !slices.Equal(got, want) {
		t.Error("the requests are kept:", got)
	}
}

// R3: what is handed in stays as it is, and what is answered is new.
func TestNothingIsShared(t *testing.T) {
	whole := append(each(), asks.Order(3, 2, "c 7", 0), asks.Order(3, 1, "c 7", 0), receive(9, "a 1"))
	more := []api.Answer{answer(3, 2, api.OK), answer(1, 9, api.ErrLess), answer(3, 1, api.OK)}
	l, answers := copied(whole), slices.Clone(more)
	first, again := model.Wanted(131, l[:12]), model.Wanted(131, l[:12])
	clear(first[:cap(first)])
	orders, orders2 := model.Orders(l[:13]), model.Orders(l[:13])
	clear(orders[:cap(orders)])
	model.Span(api.AskShip, "a", l[:12], answers[:2])
	model.Plain(3, 2, l[:12])
	model.State(3, 2, answers[:2])
	for range model.Goods(l[:12]) {
	}
	if !sameAsks(l, whole) || !slices.Equal(answers, more) {
		t.Error("changed:", l, answers)
	}
	if !slices.Equal(again, lists.Of("a 5, b 1")) || !slices.Equal(orders2, []int{67, 131}) {
		t.Error("shared:", again, orders2)
	}
}
