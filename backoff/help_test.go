package backoff_test

import (
	"slices"
	"testing"

	"entrepot/backoff"
)

// pair is a key with its time.
type pair struct{ key, at int }

// model is timers reckoned plainly: a list in the order in which keys were set, which is searched.
type model []pair

func (m *model) find(key int) int {
	return slices.IndexFunc(*m, func(p pair) bool { return p.key == key })
}

func (m *model) drop(key int) bool {
	i := m.find(key)
	if i >= 0 {
		*m = slices.Delete(*m, i, i+1)
	}
	return i >= 0
}

func (m *model) set(key, at int) {
	m.drop(key)
	*m = append(*m, pair{key, at})
}

// ordered puts one after the other where it belongs.
func (m *model) ordered() []pair {
	var l []pair
	for _, p := range *m {
		i := 0
		for i < len(l) && (l[i].at < p.at || l[i].at == p.at && l[i].key < p.key) {
			i++
		}
		l = slices.Insert(l, i, p)
	}
	return l
}

func (m *model) due(now int) []int {
	var l []int
	for _, p := range m.ordered() {
		if p.at <= now {
			l = append(l, p.key)
		}
	}
	return l
}

func (m *model) pop(now int) (int, bool) {
	l := m.due(now)
	if len(l) == 0 {
		return 0, false
	}
	return l[0], m.drop(l[0])
}

func of(l ...pair) *backoff.Timers {
	x := backoff.New()
	for _, p := range l {
		x.Set(p.key, p.at)
	}
	return x
}

func pairs(x *backoff.Timers) []pair {
	var l []pair
	for key, at := range x.All() {
		l = append(l, pair{key, at})
	}
	return l
}

// has looks whether timers have just these pairs, which are in order, by all calls that change nothing; keys that have no time are among others.
func has(t *testing.T, name string, x *backoff.Timers, others []int, want ...pair) {
	t.Helper()
	if l := pairs(x); !slices.Equal(l, want) {
		t.Errorf("%s: %v, not %v", name, l, want)
	}
	if n := x.Len(); n != len(want) {
		t.Errorf("%s: Len %d, not %d", name, n, len(want))
	}
	first := pair{}
	if len(want) > 0 {
		first = want[0]
	}
	if at, is := x.First(); at != first.at || is != (len(want) > 0) {
		t.Errorf("%s: First %d, %v, not %d", name, at, is, first.at)
	}
	for _, p := range want {
		if at, is := x.At(p.key); at != p.at || !is {
			t.Errorf("%s: At(%d) = %d, %v, not %d", name, p.key, at, is, p.at)
		}
	}
	for _, key := range others {
		if at, is := x.At(key); !slices.ContainsFunc(want, func(p pair) bool { return p.key == key }) && (at != 0 || is) {
			t.Errorf("%s: At(%d) = %d, %v", name, key, at, is)
		}
	}
}

func due(t *testing.T, x *backoff.Timers, now int, want ...int) {
	t.Helper()
	if l := x.Due(now); !slices.Equal(l, want) {
		t.Errorf("Due(%d) = %v, not %v", now, l, want)
	}
}

func pop(t *testing.T, x *backoff.Timers, now, want int, is bool) {
	t.Helper()
	if key, ok := x.Pop(now); key != want || ok != is {
		t.Errorf("Pop(%d) = %d, %v, not %d, %v", now, key, ok, want, is)
	}
}
