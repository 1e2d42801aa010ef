package backoff_test

import (
	"math"
	"math/rand"
	"slices"
	"testing"

	"entrepot/backoff"
)

func TestTimersOfNothing(t *testing.T) {
	x := backoff.New()
	has(t, "new", x, []int{0, 1, -1, math.MaxInt, math.MinInt})
	for _, now := range []int{math.MinInt, -1, 0, 1, math.MaxInt} {
		due(t, x, now)
		pop(t, x, now, 0, false)
	}
	if x.Drop(0) || x.Drop(5) {
		t.Error("it had one")
	}
	if x == backoff.New() {
		t.Error("New answers the same timers twice")
	}
}

// P11.2: the earliest first, of the same time the least first.
func TestTimersInOrder(t *testing.T) {
	l := []pair{{4, math.MinInt}, {0, -7}, {-2, 0}, {-1, 0}, {0 + 1, 0}, {9, 3}, {math.MinInt, 4}, {8, 4}, {math.MaxInt, 4}, {3, math.MaxInt}}
	r := rand.New(rand.NewSource(3))
	for range 50 {
		mixed := slices.Clone(l)
		r.Shuffle(len(mixed), func(i, j int) { mixed[i], mixed[j] = mixed[j], mixed[i] })
		x := of(mixed...)
		has(t, "mixed", x, []int{2, 5, 7}, l...)
		due(t, x, math.MinInt, 4)
		due(t, x, -8, 4)
		due(t, x, -7, 4, 0)
		due(t, x, -1, 4, 0)
		due(t, x, 0, 4, 0, -2, -1, 1)
		due(t, x, 3, 4, 0, -2, -1, 1, 9)
		due(t, x, 4, 4, 0, -2, -1, 1, 9, math.MinInt, 8, math.MaxInt)
		due(t, x, math.MaxInt-1, 4, 0, -2, -1, 1, 9, math.MinInt, 8, math.MaxInt)
		due(t, x, math.MaxInt, 4, 0, -2, -1, 1, 9, math.MinInt, 8, math.MaxInt, 3)
		has(t, "behind", x, nil, l...)
	}
}

// P11.2: a key has one time, the one that was set last.
func TestSetAnew(t *testing.T) {
	x := of(pair{1, 10}, pair{2, 20})
	x.Set(1, 30)
	has(t, "later", x, nil, pair{2, 20}, pair{1, 30})
	x.Set(1, 5)
	has(t, "earlier", x, nil, pair{1, 5}, pair{2, 20})
	x.Set(1, 5)
	x.Set(2, 5)
	has(t, "the same", x, nil, pair{1, 5}, pair{2, 5})
	x.Set(0, 0)
	has(t, "0", x, nil, pair{0, 0}, pair{1, 5}, pair{2, 5})
}

// P11.2
func TestDrop(t *testing.T) {
	x := of(pair{1, 10}, pair{0, 0}, pair{2, 20})
	if x.Drop(3) || !x.Drop(1) || x.Drop(1) {
		t.Error("Drop")
	}
	has(t, "dropped", x, []int{1, 3}, pair{0, 0}, pair{2, 20})
	due(t, x, 15, 0)
	if !x.Drop(0) || x.Drop(0) {
		t.Error("of time 0")
	}
	x.Set(1, 1)
	if !x.Drop(1) || !x.Drop(2) {
		t.Error("set anew")
	}
	has(t, "nothing", x, []int{0, 1, 2})
}

// P11.2: the first that is due alone, and nothing ahead of its time.
func TestPop(t *testing.T) {
	x := of(pair{7, 3}, pair{5, 3}, pair{6, 2}, pair{0, 9})
	pop(t, x, 1, 0, false)
	pop(t, x, math.MinInt, 0, false)
	has(t, "nothing is due", x, nil, pair{6, 2}, pair{5, 3}, pair{7, 3}, pair{0, 9})
	pop(t, x, 3, 6, true)
	has(t, "one", x, []int{6}, pair{5, 3}, pair{7, 3}, pair{0, 9})
	pop(t, x, 2, 0, false)
	pop(t, x, math.MaxInt, 5, true)
	pop(t, x, 3, 7, true)
	pop(t, x, 8, 0, false)
	pop(t, x, 9, 0, true)
	pop(t, x, 9, 0, false)
	has(t, "all", x, []int{0, 5, 6, 7})
	x.Set(6, math.MaxInt)
	pop(t, x, math.MaxInt-1, 0, false)
	pop(t, x, math.MaxInt, 6, true)
}

// P11.2: First tells a time, not a key; and a time of 0 is one.
func TestFirst(t *testing.T) {
	x := of(pair{-9, 0})
	has(t, "0", x, nil, pair{-9, 0})
	x.Set(3, -4)
	has(t, "-4", x, nil, pair{3, -4}, pair{-9, 0})
	x.Set(4, math.MinInt)
	has(t, "least", x, nil, pair{4, math.MinInt}, pair{3, -4}, pair{-9, 0})
}

// P11.2, R5: as they are when they are ranged over; it begins anew, and may be stopped.
func TestAll(t *testing.T) {
	x := of(pair{1, 1})
	all := x.All()
	x.Set(2, 0)
	x.Set(1, 5)
	x.Set(3, 5)
	for range 2 {
		var l []pair
		for key, at := range all {
			l = append(l, pair{key, at})
		}
		if !slices.Equal(l, []pair{{2, 0}, {1, 5}, {3, 5}}) {
			t.Error(l)
		}
	}
	for most := range 3 {
		met := 0
		for range all {
			if met++; met > most {
				break
			}
		}
		if met != most+1 {
			t.Error(met)
		}
	}
	has(t, "behind", x, nil, pair{2, 0}, pair{1, 5}, pair{3, 5})
}

// R3: what is due is the caller's.
func TestDueIsNewEachTime(t *testing.T) {
	x := of(pair{1, 1}, pair{2, 2}, pair{3, 3})
	a, b := x.Due(2), x.Due(2)
	clear(a[:cap(a)])
	if !slices.Equal(b, []int{1, 2}) {
		t.Error(b)
	}
	has(t, "cleared", x, nil, pair{1, 1}, pair{2, 2}, pair{3, 3})
}

// P11.2
func TestNilTimers(t *testing.T) {
	var x *backoff.Timers
	for _, key := range []int{-1, 0, 1, math.MaxInt} {
		x.Set(key, 0)
		if x.Drop(key) {
			t.Error("it had", key)
		}
		due(t, x, key)
		pop(t, x, key, 0, false)
	}
	has(t, "nil", x, []int{-1, 0, 1})
}

// calls are all that timers are told, of few keys and times.
func calls() []func(*backoff.Timers, *model) bool {
	var l []func(*backoff.Timers, *model) bool
	for key := range 2 {
		for at := range 2 {
			l = append(l, func(x *backoff.Timers, m *model) bool {
				x.Set(key, at)
				m.set(key, at)
				return true
			})
		}
		l = append(l, func(x *backoff.Timers, m *model) bool { return x.Drop(key) == m.drop(key) })
	}
	for now := range 3 {
		l = append(l, func(x *backoff.Timers, m *model) bool {
			key, is := x.Pop(now - 1)
			want, ok := m.pop(now - 1)
			return key == want && is == ok
		})
	}
	return l
}

// P11.2: all calls in every order, six behind one another.
func TestTimersInEveryOrder(t *testing.T) {
	l := calls()
	many := 1
	for range 6 {
		many *= len(l)
	}
	for n := range many {
		x, m := backoff.New(), &model{}
		left := n
		for range 6 {
			if !l[left%len(l)](x, m) {
				t.Fatal(n, left)
			}
			left /= len(l)
		}
		if !slices.Equal(pairs(x), m.ordered()) || !slices.Equal(x.Due(0), m.due(0)) || x.Len() != len(*m) {
			t.Fatal(n, pairs(x), *m)
		}
	}
}

// P11.2: all as the model has it, whatever was told ahead.
func TestTimersBesideAModel(t *testing.T) {
	r := rand.New(rand.NewSource(4))
	for round := range 8 {
		x, m := backoff.New(), &model{}
		spread := []int{3, 10, 40, 200}[round%4]
		for i := range 1500 {
			key, n := r.Intn(spread)-spread/2, r.Intn(spread)-spread/2
			switch r.Intn(6) {
			case 0:
				if x.Drop(key) != m.drop(key) {
					t.Fatal(i, "Drop", key)
				}
			case 1:
				want, is := m.pop(n)
				pop(t, x, n, want, is)
			case 2:
				due(t, x, n, m.due(n)...)
			default:
				x.Set(key, n)
				m.set(key, n)
			}
			if i%10 == 0 {
				has(t, "by chance", x, []int{key}, m.ordered()...)
			}
		}
	}
}

// P11.3: what is popped till nothing is due is what was due; the others stay.
func TestWhatIsPoppedWasDue(t *testing.T) {
	r := rand.New(rand.NewSource(5))
	for range 300 {
		x, m := backoff.New(), &model{}
		for range r.Intn(40) {
			key, at := r.Intn(30), r.Intn(12)
			x.Set(key, at)
			m.set(key, at)
		}
		now := r.Intn(14) - 1
		want := x.Due(now)
		var l []int
		for key, is := x.Pop(now); is; key, is = x.Pop(now) {
			l = append(l, key)
			m.drop(key)
		}
		if !slices.Equal(l, want) {
			t.Fatal(now, l, want)
		}
		due(t, x, now)
		has(t, "what is left", x, l, m.ordered()...)
	}
}

// Many timers are popped in a time that can be waited for.
func TestManyTimers(t *testing.T) {
	const many = 5000
	x := backoff.New()
	for key := range many {
		x.Set(key, key*7919%many)
	}
	last := -1
	for range many {
		key, is := x.Pop(many)
		if at := key * 7919 % many; !is || at != last+1 {
			t.Fatal(key, is)
		}
		last++
	}
	pop(t, x, math.MaxInt, 0, false)
}
