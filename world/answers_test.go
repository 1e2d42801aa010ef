package world

import (
	"iter"
	"math/rand"
	"slices"
	"testing"

	"entrepot/api"
)

// told is a world of three clients that got these answers of client 1's 5.
func told(l ...api.Answer) *World {
	w, _ := New(api.World{Regions: 1, Sectors: 4, Clients: 3})
	for _, a := range l {
		a.Client, a.Number = 1, 5
		w.answered(a)
	}
	return w
}

// P24.1: what no program that is right lets come can't be asked for from outside: answers that are unlike.
func TestUnlike(t *testing.T) {
	ok, other, late, refused := api.Answer{N: 7}, api.Answer{N: 8}, api.Answer{Code: api.ErrWait}, api.Answer{Code: api.ErrLess}
	clash, stale, full := api.Answer{Code: api.ErrClash}, api.Answer{Code: api.ErrStale}, api.Answer{Code: api.ErrFull}
	for _, c := range []struct {
		told   []api.Answer
		want   api.Answer
		unlike bool
	}{
		{[]api.Answer{ok}, ok, false}, {[]api.Answer{ok, ok, ok}, ok, false}, {[]api.Answer{ok, other}, ok, true}, {[]api.Answer{ok, other, ok}, ok, true},
		{[]api.Answer{late, refused}, late, true}, {[]api.Answer{ok, late}, ok, true}, {[]api.Answer{late, ok}, late, true},
		{[]api.Answer{clash}, clash, false}, {[]api.Answer{stale, clash}, stale, false}, {[]api.Answer{full, stale, clash}, full, false},
		{[]api.Answer{clash, ok}, ok, false}, {[]api.Answer{stale, refused, clash}, refused, false}, {[]api.Answer{full, late, full, late, stale}, late, false},
		{[]api.Answer{clash, ok, full, other}, ok, true}, {[]api.Answer{ok, clash, ok, stale, ok, full}, ok, false}, {[]api.Answer{ok, ok, full, refused, stale}, ok, true},
	} {
		w := told(c.told...)
		c.want.Client, c.want.Number = 1, 5
		if a, is := w.Answer(1, 5); !is || a != c.want || w.Unlike() != c.unlike {
			t.Error(c, a, is, w.Unlike())
		}
		if l := slices.Collect(w.Answers()); !slices.Equal(l, []api.Answer{c.want}) {
			t.Error(c, l)
		}
	}
}

// P24.1: answers of other clients, or of other numbers, are not unlike; those of clients that the world does not have are let go.
func TestUnlikeOfOneNumber(t *testing.T) {
	w := told(api.Answer{N: 7})
	for _, a := range []api.Answer{{Client: 1, Number: 6}, {Client: 2, Number: 5}, {Client: 0, Number: 5}, {Client: 3, Number: 5, N: 1}, {Client: 3, Number: 5, N: 2}, {Client: 63, Number: 5}} {
		w.answered(a)
	}
	if w.Unlike() {
		t.Error("unlike")
	}
	if l := slices.Collect(w.Answers()); len(l) != 4 {
		t.Error(l)
	}
	if _, is := w.Answer(3, 5); is {
		t.Error("client 3")
	}
}

// P24.1: by clients, then numbers, in whichever order they came; it may be stopped behind each.
func TestAnswersByChance(t *testing.T) {
	r := rand.New(rand.NewSource(24))
	w, _ := New(api.World{Regions: 1, Sectors: 4, Clients: 64})
	var want []api.Answer
	for client := range 64 {
		for range r.Intn(6) {
			last := 0
			if n := len(want); n > 0 && want[n-1].Client == client {
				last = want[n-1].Number
			}
			want = append(want, api.Answer{Client: client, Number: last + 1 + r.Intn(1<<28)})
		}
	}
	for _, i := range r.Perm(len(want)) {
		w.answered(want[i])
	}
	stops(t, w.Answers(), want)
}

func stops(t *testing.T, all iter.Seq[api.Answer], want []api.Answer) {
	t.Helper()
	if l := slices.Collect(all); !slices.Equal(l, want) {
		t.Fatal(l, "not", want)
	}
	for many := range len(want) {
		var l []api.Answer
		for a := range all {
			l = append(l, a)
			if len(l) > many {
				break
			}
		}
		if !slices.Equal(l, want[:many+1]) {
			t.Fatal(l)
		}
	}
}

// P24.2: a region whose device says nothing stays down, and what is refused is answered.
func TestStartIsRefused(t *testing.T) {
	w, _ := New(api.World{Regions: 2, Sectors: 64, Clients: 3})
	for range 3 {
		w.Do(api.Act{Kind: api.ActTick, A: 1})
	}
	w.Do(api.Act{Kind: api.ActCrash, A: 1, Torn: -1})
	// The log's only sector says something else.
	b := make([]byte, 64)
	copy(b, []byte{0, 0, 4, 'j', 'u', 'n', 'k'})
	b[63] = 7
	d := w.sites[1].device
	d.Write(2, b)
	d.Flush()
	for range 2 {
		if e := w.Do(api.Act{Kind: api.ActStart, A: 1}); e != api.ErrCode || w.Node(1) != nil || w.Up() != 1 {
			t.Error(e, w.Up())
		}
	}
	if e := w.Do(api.Act{Kind: api.ActTick, A: 1}); e != api.ErrNone {
		t.Error(e)
	}
}
