package bins_test

import (
	"math/rand"
	"slices"
	"strings"
	"testing"

	"entrepot/api"
	"entrepot/bins"
)

// model is a floor reckoned plainly: bins, each with pieces that are put and taken one by one.
type model []*shelf

type shelf struct {
	api.Bin
	in map[string]int
}

func plainly(l []api.Bin) model {
	var m model
	for _, b := range l {
		m = append(m, &shelf{b, map[string]int{}})
	}
	return m
}

func (s *shelf) all() int {
	n := 0
	for _, k := range s.in {
		n += k
	}
	return n
}

func (s *shelf) can(good string) bool {
	return s.in[good] > 0 || len(s.in) < 16
}

func (s *shelf) add(good string, n int) {
	s.in[good] += n
	if s.in[good] == 0 {
		delete(s.in, good)
	}
}

func (m model) find(number int) *shelf {
	for _, s := range m {
		if s.Number == number {
			return s
		}
	}
	return nil
}

func (m model) of(good string) int {
	n := 0
	for _, s := range m {
		n += s.in[good]
	}
	return n
}

// next is the one that comes first of those that are left, by two numbers, and then by its own.
func next(left model, by func(*shelf) [2]int) int {
	best := 0
	for i, s := range left {
		a, b := by(s), by(left[best])
		if a[0] < b[0] || a[0] == b[0] && (a[1] < b[1] || a[1] == b[1] && s.Number < left[best].Number) {
			best = i
		}
	}
	return best
}

// through goes through shelves in order, piece by piece, till none is left.
func (m model) through(good string, n, sign int, by func(*shelf) [2]int, more func(*shelf) bool) []api.Place {
	left := slices.Clone(m)
	var l []api.Place
	for n > 0 && len(left) > 0 {
		i := next(left, by)
		s := left[i]
		left = slices.Delete(left, i, i+1)
		part := 0
		for n > 0 && more(s) {
			s.add(good, sign)
			n--
			part++
		}
		if part > 0 {
			l = append(l, api.Place{Bin: s.Number, Good: good, N: part})
		}
	}
	return l
}

// letters are names of goods, more than have room in a bin.
const letters = "abcdefghijklmnopqrst"

func may(good string, n int) bool {
	return len(good) == 1 && strings.Contains(letters, good) && n >= 1 && n <= 1<<40
}

func (m model) put(good string, n int) ([]api.Place, api.Errno) {
	if !may(good, n) {
		return nil, api.ErrItems
	}
	room := 0
	for _, s := range m {
		if s.can(good) {
			room += s.Room - s.all()
		}
	}
	if room < n {
		return nil, api.ErrFull
	}
	key := map[*shelf][2]int{}
	for _, s := range m {
		switch {
		case s.in[good] > 0:
			key[s] = [2]int{0, s.Room - s.all()}
		case len(s.in) == 0:
			key[s] = [2]int{1, 0}
		default:
			key[s] = [2]int{2, 0}
		}
	}
	return m.through(good, n, 1, func(s *shelf) [2]int { return key[s] }, func(s *shelf) bool { return s.can(good) && s.all() < s.Room }), api.OK
}

func (m model) take(good string, n int) ([]api.Place, api.Errno) {
	switch {
	case !may(good, n):
		return nil, api.ErrItems
	case m.of(good) < n:
		return nil, api.ErrLess
	}
	key := map[*shelf]int{}
	for _, s := range m {
		key[s] = s.in[good]
	}
	return m.through(good, n, -1, func(s *shelf) [2]int { return [2]int{key[s], 0} }, func(s *shelf) bool { return s.in[good] > 0 }), api.OK
}

func (m model) move(good string, from, to, n int) api.Errno {
	a, b := m.find(from), m.find(to)
	switch {
	case a == nil || b == nil || a == b:
		return api.ErrBin
	case !may(good, n):
		return api.ErrItems
	case a.in[good] < n:
		return api.ErrLess
	case !b.can(good) || b.all()+n > b.Room:
		return api.ErrFull
	}
	a.add(good, -n)
	b.add(good, n)
	return api.OK
}

func (m model) count(number int, good string, n int) (int, api.Errno) {
	b := m.find(number)
	switch {
	case b == nil:
		return 0, api.ErrBin
	case n != 0 && !may(good, n) || !may(good, 1):
		return 0, api.ErrItems
	case n > 0 && (!b.can(good) || b.all()-b.in[good]+n > b.Room):
		return 0, api.ErrFull
	}
	more := n - b.in[good]
	b.add(good, more)
	return more, api.OK
}

func (m model) lines() []plain {
	var l []plain
	for _, s := range m {
		x := plain{Bin: s.Bin}
		for good, n := range s.in {
			x.in = append(x.in, api.Item{Good: good, N: n})
		}
		slices.SortFunc(x.in, func(a, b api.Item) int {
			if a.Good < b.Good {
				return -1
			}
			return 1
		})
		l = append(l, x)
	}
	return l
}

// call is something that a floor is told, and the model beside it: do both say the same?
type call func(f *bins.Floor, m model) bool

func put(good string, n int) call {
	return func(f *bins.Floor, m model) bool {
		l, e := f.Put(good, n)
		k, code := m.put(good, n)
		return slices.Equal(l, k) && e == code
	}
}

func take(good string, n int) call {
	return func(f *bins.Floor, m model) bool {
		l, e := f.Take(good, n)
		k, code := m.take(good, n)
		return slices.Equal(l, k) && e == code
	}
}

func move(good string, from, to, n int) call {
	return func(f *bins.Floor, m model) bool { return f.Move(good, from, to, n) == m.move(good, from, to, n) }
}

func counted(number int, good string, n int) call {
	return func(f *bins.Floor, m model) bool {
		more, e := f.Count(number, good, n)
		k, code := m.count(number, good, n)
		return more == k && e == code
	}
}

// P27.1, P27.2, P27.6: all calls in every order, five behind one another.
func TestCallsInEveryOrder(t *testing.T) {
	calls := []call{
		put("a", 1), put("a", 3), put("b", 2), put("c", 4), take("a", 1), take("a", 3), take("b", 1),
		move("a", 1, 2, 1), move("a", 2, 1, 2), move("b", 1, 4, 1), counted(1, "a", 2), counted(2, "b", 1), counted(4, "a", 0),
	}
	all := []api.Bin{{Number: 1, Zone: 0, Room: 3}, {Number: 2, Zone: 1, Room: 2}, {Number: 4, Zone: 0, Room: 4}}
	many := len(calls)
	for n := range many * many * many * many * many {
		f, e := bins.New(all)
		if e != api.OK {
			t.Fatal(e)
		}
		m := plainly(all)
		left := n
		for range 5 {
			if !calls[left%many](f, m) {
				t.Fatal(n, left)
			}
			left /= many
		}
		if n%7 == 0 && !is(f, m.lines()...) {
			t.Fatalf("%d: %q, not %v", n, f.Pack(), m.lines())
		}
	}
}

// anything is a call of any kind, of so many goods, at times with what may not be.
func anything(r *rand.Rand, goods, most int) call {
	good := letters[r.Intn(goods):][:1]
	if r.Intn(10) == 0 {
		good = []string{"", "A", "a "}[r.Intn(3)]
	}
	n := r.Intn(most+2) - 1
	number, other := r.Intn(most)%12, r.Intn(12)
	switch r.Intn(8) {
	case 0, 1, 2:
		return put(good, n)
	case 3, 4:
		return take(good, n)
	case 5, 6:
		return move(good, number, other, n)
	}
	return counted(number, good, n)
}

// P27.1, P27.2, P27.5, P27.6: many calls, and across codes; what was put is there, and no bin has more than its room.
func TestFloorBesideAModel(t *testing.T) {
	r := rand.New(rand.NewSource(271))
	for round := range 120 {
		var all []api.Bin
		for number := 1; number < 12; number++ {
			if r.Intn(3) > 0 || number == 1 {
				all = append(all, api.Bin{Number: number, Zone: r.Intn(16), Room: 1 + r.Intn([]int{12, 12, 12, 60}[round%4])})
			}
		}
		f, e := bins.New(all)
		if e != api.OK {
			t.Fatal(e)
		}
		m := plainly(all)
		for i := range 400 {
			if !anything(r, []int{4, 4, 4, 20}[round%4], []int{4, 15, 40}[round%3])(f, m) {
				t.Fatal(round, i)
			}
			if i%10 == 0 && !is(f, m.lines()...) {
				t.Fatalf("%d, %d: %q, not %v", round, i, f.Pack(), m.lines())
			}
			if r.Intn(20) == 0 {
				again, e := bins.Unpack(f.Pack())
				if e != api.OK {
					t.Fatal(round, i, e)
				}
				f = again
			}
		}
	}
}

// P27.6: by what was answered OK alone.
func TestNothingGetsLost(t *testing.T) {
	r := rand.New(rand.NewSource(276))
	done := 0
	for range 200 {
		f, _ := bins.New(many(1, 1+r.Intn(8), 1+r.Intn(30)))
		there := map[string]int{}
		for range 100 {
			good, n := []string{"a", "b", "c"}[r.Intn(3)], 1+r.Intn(20)
			switch r.Intn(4) {
			case 0, 1:
				if l, e := f.Put(good, n); e == api.OK {
					there[good] += n
					done += len(l)
				}
			case 2:
				if _, e := f.Take(good, n); e == api.OK {
					there[good] -= n
				}
			default:
				more, _ := f.Count(1, good, n)
				there[good] += more
			}
			f.Move(good, 1, 2, n)
			for b := range f.Bins() {
				if left := f.Left(b.Number); left < 0 || left != b.Room-sum(f.In(b.Number)) {
					t.Fatal(b, left)
				}
			}
			for _, good := range []string{"a", "b", "c"} {
				if f.Of(good) != there[good] {
					t.Fatal(good, f.Of(good), there)
				}
			}
		}
	}
	if done < 1000 {
		t.Error(done)
	}
}
