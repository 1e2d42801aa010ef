package audit

// What no program that is right lets come can't be shown to the audits by a world: they are shown it part by part.

import (
	"maps"
	"testing"

	"entrepot/api"
	"entrepot/lists"
	"entrepot/saga"
)

func parcelOf(want, shipped, back string) api.Parcel {
	return api.Parcel{Order: 65, Want: lists.Of(want), Shipped: lists.Of(shipped), Back: lists.Of(back)}
}

// P26.1: a saga may be, and has a parcel; Want covers Shipped, and Shipped Back.
func TestFits(t *testing.T) {
	may, _, e := saga.Begin(65, 0, 2, lists.Of("a 5, b 1"), false)
	if e != api.OK {
		t.Fatal(e)
	}
	mayNot := may
	mayNot.Asked = 3
	for _, c := range []struct {
		p    api.Parcel
		want bool
	}{
		{api.Parcel{}, true},
		{parcelOf("a 5, b 1", "", ""), true},
		{parcelOf("a 5, b 1", "a 5, b 1", "a 5, b 1"), true},
		{parcelOf("a 5, b 1", "a 3", "a 2"), true},
		{parcelOf("a 5, b 1", "b 1", "b 1"), true},
		{parcelOf("a 5, b 1", "a 6", ""), false},
		{parcelOf("a 5, b 1", "a 5, b 2", ""), false},
		{parcelOf("a 5, b 1", "c 1", ""), false},
		{parcelOf("", "a 1", ""), false},
		{parcelOf("a 5, b 1", "a 5, b 1", "a 6"), false},
		{parcelOf("a 5, b 1", "a 5", "b 1"), false},
		{parcelOf("a 5, b 1", "a 3", "a 4"), false},
		{parcelOf("a 5, b 1", "", "a 1"), false},
		{parcelOf("a 5", "a 6", "a 7"), false},
	} {
		if is := fits(may, c.p, true); is != c.want {
			t.Error(c.p, is)
		}
		if fits(mayNot, c.p, true) || fits(api.Saga{}, c.p, true) || fits(may, c.p, false) {
			t.Error("of a saga that may not be, or of no parcel:", c.p)
		}
	}
}

// P26.1: Shipped is at most Want; the same, if the saga is SagaShipped.
func TestShipped(t *testing.T) {
	for _, c := range []struct {
		p         api.Parcel
		most, all bool
	}{
		{parcelOf("a 5, b 1", "", ""), true, false},
		{parcelOf("a 5, b 1", "a 5", ""), true, false},
		{parcelOf("a 5, b 1", "b 1", ""), true, false},
		{parcelOf("a 5, b 1", "a 4, b 1", ""), true, false},
		{parcelOf("a 5, b 1", "a 5, b 1", ""), true, true},
		{parcelOf("a 5, b 1", "a 5, b 1", "a 5, b 1"), true, true},
		{parcelOf("a 5, b 1", "a 6, b 1", ""), false, false},
		{parcelOf("a 5, b 1", "a 5, b 1, c 1", ""), false, false},
		{parcelOf("a 5, b 1", "c 1", ""), false, false},
		{parcelOf("a 5", "a 4, b 1", ""), false, false},
	} {
		for state := -1; state <= 11; state++ {
			want := c.most
			if state == api.SagaShipped {
				want = c.all
			}
			if is := shipped(api.Saga{State: state}, c.p, true); is != want {
				t.Error(state, c.p, is)
			}
		}
	}
}

// P26.2: lists of an order are put together.
func TestTogether(t *testing.T) {
	for _, c := range []struct {
		lists []string
		want  amounts
	}{
		{nil, nil},
		{[]string{"", "", ""}, nil},
		{[]string{"a 5, b 1"}, amounts{"a": 5, "b": 1}},
		{[]string{"a 5, b 1", "a 2", "b 3, c 7"}, amounts{"a": 7, "b": 4, "c": 7}},
		{[]string{"", "", "a 1"}, amounts{"a": 1}},
		{[]string{"", "a 1", ""}, amounts{"a": 1}},
	} {
		var l [][]api.Item
		for _, s := range c.lists {
			l = append(l, lists.Of(s))
		}
		got := together(l...)
		if !maps.Equal(got, c.want) || !same(got, c.want) {
			t.Error(c.lists, got)
		}
		more := maps.Clone(got)
		more["a"]++
		if same(got, more) || same(more, got) || same(amounts{"z": 1}, got) {
			t.Error("the same:", got)
		}
	}
}
