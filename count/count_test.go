package count_test

import (
	"math"
	"math/big"
	"math/rand"
	"slices"
	"testing"

	"entrepot/api"
	"entrepot/count"
)

const most = api.MaxCount

// edges are numbers about the bounds of counts and of ints.
func edges() []int {
	return []int{math.MinInt, math.MinInt + 1, -most - 1, -most, -2, -1, 0, 1, 2, most/2 - 1, most / 2, most/2 + 1, most - 1, most, most + 1, 2 * most, math.MaxInt - most, math.MaxInt - 1, math.MaxInt}
}

func counts(l ...int) bool {
	return !slices.ContainsFunc(l, func(n int) bool { return n < 0 || n > 1<<40 })
}

// P5.1
func TestMay(t *testing.T) {
	for n, want := range map[int]bool{math.MinInt: false, -1: false, 0: true, 1: true, 1 << 32: true, 1<<40 - 1: true, 1 << 40: true, 1<<40 + 1: false, math.MaxInt: false} {
		if count.May(n) != want {
			t.Errorf("May(%d) = %v", n, !want)
		}
	}
}

// P5.1
func TestAdd(t *testing.T) {
	for _, c := range []struct {
		have, more, want int
		e                api.Errno
	}{
		{3, 4, 7, api.OK},
		{0, 0, 0, api.OK},
		{most, 0, most, api.OK},
		{0, most, most, api.OK},
		{most - 1, 1, most, api.OK},
		{most, 1, 0, api.ErrOver},
		{most, most, 0, api.ErrOver},
		{-1, 1, 0, api.ErrArg},
		{1, -1, 0, api.ErrArg},
		{most + 1, 0, 0, api.ErrArg},
		{most, -1, 0, api.ErrArg},
		{math.MaxInt, math.MaxInt, 0, api.ErrArg},
	} {
		if sum, e := count.Add(c.have, c.more); sum != c.want || e != c.e {
			t.Errorf("Add(%d, %d) = %d, %d", c.have, c.more, sum, e)
		}
	}
}

// P5.1
func TestLess(t *testing.T) {
	for _, c := range []struct {
		have, n, want int
		e             api.Errno
	}{
		{7, 4, 3, api.OK},
		{7, 7, 0, api.OK},
		{7, 0, 7, api.OK},
		{most, most, 0, api.OK},
		{7, 8, 0, api.ErrLess},
		{0, 1, 0, api.ErrLess},
		{0, most, 0, api.ErrLess},
		{-1, 0, 0, api.ErrArg},
		{5, -1, 0, api.ErrArg},
		{0, most + 1, 0, api.ErrArg},
		{most + 1, 1, 0, api.ErrArg},
		{math.MaxInt, math.MinInt, 0, api.ErrArg},
	} {
		if left, e := count.Less(c.have, c.n); left != c.want || e != c.e {
			t.Errorf("Less(%d, %d) = %d, %d", c.have, c.n, left, e)
		}
	}
}

// P5.1: of several errors the one that the chapter names first.
func TestMove(t *testing.T) {
	for _, c := range []struct {
		from, to, n  int
		left, gotten int
		e            api.Errno
	}{
		{5, 1, 3, 2, 4, api.OK},
		{5, 1, 5, 0, 6, api.OK},
		{5, 1, 0, 5, 1, api.OK},
		{5, most, 0, 5, most, api.OK},
		{most, 0, most, 0, most, api.OK},
		{1, most - 1, 1, 0, most, api.OK},
		{5, 1, 6, 0, 0, api.ErrLess},
		{5, most, 6, 0, 0, api.ErrLess},
		{5, most, 1, 0, 0, api.ErrOver},
		{most, most, most, 0, 0, api.ErrOver},
		{-1, 1, 0, 0, 0, api.ErrArg},
		{1, -1, 1, 0, 0, api.ErrArg},
		{1, 1, -1, 0, 0, api.ErrArg},
		{most + 1, most, 1, 0, 0, api.ErrArg},
		{1, most + 1, 2, 0, 0, api.ErrArg},
		{1, 1, most + 1, 0, 0, api.ErrArg},
		{math.MaxInt, math.MaxInt, math.MaxInt, 0, 0, api.ErrArg},
	} {
		if left, gotten, e := count.Move(c.from, c.to, c.n); left != c.left || gotten != c.gotten || e != c.e {
			t.Errorf("Move(%d, %d, %d) = %d, %d, %d", c.from, c.to, c.n, left, gotten, e)
		}
	}
}

// P5.1
func TestSum(t *testing.T) {
	for _, c := range []struct {
		l    []int
		want int
		e    api.Errno
	}{
		{nil, 0, api.OK},
		{[]int{}, 0, api.OK},
		{[]int{7}, 7, api.OK},
		{[]int{1, 2, 3}, 6, api.OK},
		{[]int{most}, most, api.OK},
		{[]int{most, 0, 0}, most, api.OK},
		{[]int{most / 2, most / 2}, most, api.OK},
		{[]int{most / 2, most / 2, 1}, 0, api.ErrOver},
		{[]int{most, 1, 0}, 0, api.ErrOver},
		{[]int{-1}, 0, api.ErrArg},
		{[]int{most + 1}, 0, api.ErrArg},
		{[]int{most, 1, -1}, 0, api.ErrArg},
		{[]int{most, most, most + 1}, 0, api.ErrArg},
		{[]int{math.MaxInt, math.MaxInt}, 0, api.ErrArg},
	} {
		if sum, e := count.Sum(c.l...); sum != c.want || e != c.e {
			t.Errorf("Sum(%d) = %d, %d", c.l, sum, e)
		}
	}
}

// P5.1: together these go round to 0 as an int.
func TestSumOfMoreThanAnIntHas(t *testing.T) {
	l := make([]int, 1<<24)
	for i := range l {
		l[i] = most
	}
	if sum, e := count.Sum(l...); sum != 0 || e != api.ErrOver {
		t.Error(sum, e)
	}
	l[len(l)-1] = -1
	if sum, e := count.Sum(l...); sum != 0 || e != api.ErrArg {
		t.Error(sum, e)
	}
}

// P5.1: all calls at all edges, beside numbers of any length.
func TestCountsAtTheEdges(t *testing.T) {
	for _, a := range edges() {
		for _, b := range edges() {
			sum, e := count.Add(a, b)
			wanted(t, "Add", []int{a, b}, [2]int{sum}, e, check{over: plus(a, b), gives: [2]*big.Int{plus(a, b)}})
			sum, e = count.Sum(a, b)
			wanted(t, "Sum", []int{a, b}, [2]int{sum}, e, check{over: plus(a, b), gives: [2]*big.Int{plus(a, b)}})
			left, e := count.Less(a, b)
			wanted(t, "Less", []int{a, b}, [2]int{left}, e, check{less: a < b, gives: [2]*big.Int{minus(a, b)}})
			for _, n := range edges() {
				left, gotten, e := count.Move(a, b, n)
				wanted(t, "Move", []int{a, b, n}, [2]int{left, gotten}, e, check{less: a < n, over: plus(b, n), gives: [2]*big.Int{minus(a, n), plus(b, n)}})
			}
		}
	}
}

func plus(a, b int) *big.Int {
	return new(big.Int).Add(big.NewInt(int64(a)), big.NewInt(int64(b)))
}

func minus(a, b int) *big.Int {
	return new(big.Int).Sub(big.NewInt(int64(a)), big.NewInt(int64(b)))
}

// check is what a call on counts alone has to answer.
type check struct {
	less  bool
	over  *big.Int
	gives [2]*big.Int
}

func wanted(t *testing.T, name string, args []int, got [2]int, e api.Errno, c check) {
	t.Helper()
	var want [2]int
	wantE := api.OK
	switch {
	case !counts(args...):
		wantE = api.ErrArg
	case c.less:
		wantE = api.ErrLess
	case c.over != nil && c.over.Cmp(big.NewInt(1<<40)) > 0:
		wantE = api.ErrOver
	default:
		for i, n := range c.gives {
			if n != nil {
				want[i] = int(n.Int64())
			}
		}
	}
	if got != want || e != wantE {
		t.Errorf("%s of %d = %d, %d, not %d, %d", name, args, got, e, want, wantE)
	}
}

// P5.4
func TestMovedBackAllIsAsItWas(t *testing.T) {
	r := rand.New(rand.NewSource(5))
	moved := 0
	for range 2000 {
		from, to, n := r.Intn(most>>r.Intn(41)+1), r.Intn(most>>r.Intn(41)+1), r.Intn(most>>r.Intn(41)+1)
		left, gotten, e := count.Move(from, to, n)
		if e != api.OK {
			continue
		}
		moved++
		if left+gotten != from+to {
			t.Errorf("Move(%d, %d, %d) = %d, %d", from, to, n, left, gotten)
		}
		if gotten, left, e := count.Move(gotten, left, n); left != from || gotten != to || e != api.OK {
			t.Errorf("%d moved from %d to %d and back: %d, %d, %d", n, from, to, left, gotten, e)
		}
	}
	if moved < 100 {
		t.Error("moved:", moved)
	}
}

// R3
func TestSumLeavesWhatIsHandedIn(t *testing.T) {
	room := []int{1, 2, 3, 99}
	count.Sum(room[:3]...)
	count.Share(10, room[:3])
	if !slices.Equal(room, []int{1, 2, 3, 99}) {
		t.Error(room)
	}
}
