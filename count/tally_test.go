package count_test

import (
	"math"
	"sync"
	"sync/atomic"
	"testing"

	"entrepot/api"
	"entrepot/count"
)

// marks looks whether a tally has these, by Get and by All.
func marks(t *testing.T, k *count.Tally, want [api.Marks]int) {
	t.Helper()
	if got := k.All(); got != want {
		t.Errorf("All() = %d, not %d", got, want)
	}
	for i, n := range want {
		if got := k.Get(i); got != n {
			t.Errorf("Get(%d) = %d, not %d", i, got, n)
		}
	}
}

// P5.3
func TestMark(t *testing.T) {
	k := count.New()
	marks(t, k, [api.Marks]int{})
	for _, c := range []struct{ i, n, want int }{
		{0, 5, 5}, {0, -7, -2}, {7, 1, 1}, {0, 0, -2}, {7, most, most + 1}, {3, math.MinInt, math.MinInt},
	} {
		if got := k.Mark(c.i, c.n); got != c.want {
			t.Errorf("Mark(%d, %d) = %d, not %d", c.i, c.n, got, c.want)
		}
	}
	marks(t, k, [api.Marks]int{-2, 0, 0, math.MinInt, 0, 0, 0, most + 1})
}

// P5.3
func TestMarksGoRound(t *testing.T) {
	k := count.New()
	k.Mark(1, math.MaxInt)
	if got := k.Mark(1, 1); got != math.MinInt {
		t.Error("above the greatest:", got)
	}
	if got := k.Mark(1, -1); got != math.MaxInt {
		t.Error("below the least:", got)
	}
	marks(t, k, [api.Marks]int{1: math.MaxInt})
}

// P5.3
func TestMost(t *testing.T) {
	k := count.New()
	for _, c := range []struct {
		n    int
		is   bool
		then int
	}{
		{0, false, 0}, {-1, false, 0}, {math.MinInt, false, 0}, {5, true, 5}, {5, false, 5}, {4, false, 5}, {6, true, 6}, {math.MaxInt, true, math.MaxInt}, {math.MaxInt, false, math.MaxInt},
	} {
		if is := k.Most(2, c.n); is != c.is {
			t.Errorf("Most(2, %d) = %v", c.n, is)
		}
		marks(t, k, [api.Marks]int{2: c.then})
	}
	k.Mark(4, -9)
	if !k.Most(4, -8) || k.Most(4, -8) || k.Get(4) != -8 {
		t.Error("below 0:", k.Get(4))
	}
}

// P5.3
func TestTake(t *testing.T) {
	k := count.New()
	k.Mark(6, 5)
	for _, c := range []struct {
		n    int
		is   bool
		then int
	}{
		{6, false, 5}, {-1, false, 5}, {math.MinInt, false, 5}, {math.MaxInt, false, 5}, {0, true, 5}, {2, true, 3}, {4, false, 3}, {3, true, 0}, {1, false, 0}, {0, true, 0}, {-1, false, 0},
	} {
		if is := k.Take(6, c.n); is != c.is {
			t.Errorf("Take(6, %d) = %v", c.n, is)
		}
		marks(t, k, [api.Marks]int{6: c.then})
	}
	k.Mark(6, -3)
	if k.Take(6, 0) || k.Take(6, -3) || k.Take(6, -4) || k.Take(6, 1) || k.Get(6) != -3 {
		t.Error("taken of what is below 0:", k.Get(6))
	}
	k.Mark(0, math.MaxInt)
	if !k.Take(0, math.MaxInt) || k.Get(0) != 0 {
		t.Error("the greatest:", k.Get(0))
	}
}

// P5.3
func TestStartIsTrueOnce(t *testing.T) {
	k := count.New()
	k.Mark(0, 1)
	if !k.Start() || k.Start() || k.Start() {
		t.Error("Start")
	}
	marks(t, k, [api.Marks]int{1})
	if !count.New().Start() {
		t.Error("another tally was started too")
	}
}

// P5.3
func TestMarksThatThereAreNot(t *testing.T) {
	k := count.New()
	for i := range api.Marks {
		k.Mark(i, 10+i)
	}
	want := k.All()
	for _, i := range []int{math.MinInt, -8, -1, 8, 9, 16, 1 << 32, math.MaxInt} {
		if k.Mark(i, 5) != 0 || k.Get(i) != 0 || k.Most(i, 50) || k.Take(i, 1) || k.Take(i, 0) {
			t.Error("there is a mark", i)
		}
		marks(t, k, want)
	}
	if want != [api.Marks]int{10, 11, 12, 13, 14, 15, 16, 17} {
		t.Error(want)
	}
}

// P5.3
func TestNilTally(t *testing.T) {
	var k *count.Tally
	for _, i := range []int{-1, 0, 7, 8} {
		if k.Mark(i, 5) != 0 || k.Get(i) != 0 || k.Most(i, 5) || k.Take(i, 0) {
			t.Error("a nil Tally has a mark", i)
		}
	}
	if k.All() != [api.Marks]int{} || k.Start() || k.Start() {
		t.Error(k.All())
	}
}

// P5.3, R3: tallies share nothing, nor does an answer hang on its tally.
func TestTalliesAreApart(t *testing.T) {
	a, b := count.New(), count.New()
	if a == b {
		t.Fatal("New answers one tally twice")
	}
	all := a.All()
	all[0] = 9
	a.Mark(1, 4)
	marks(t, a, [api.Marks]int{1: 4})
	marks(t, b, [api.Marks]int{})
	if all != [api.Marks]int{9} {
		t.Error(all)
	}
}

// atOnce runs so many at once, and waits for them.
func atOnce(many int, do func(i int)) {
	var wait sync.WaitGroup
	for i := range many {
		wait.Add(1)
		go func() {
			defer wait.Done()
			do(i)
		}()
	}
	wait.Wait()
}

// P5.3, R4: what many do at once is what they do one after the other, in whatever order.
func TestManyPutMarks(t *testing.T) {
	const many, each = 16, 2000
	k := count.New()
	var taken, rose, started atomic.Int64
	k.Mark(1, many*each/2)
	atOnce(many, func(i int) {
		if k.Start() {
			started.Add(1)
		}
		for n := range each {
			k.Mark(0, 1)
			if k.Take(1, 1) {
				taken.Add(1)
			}
			if k.Most(2, n*many+i) {
				rose.Add(1)
			}
			k.Mark(3, n)
			k.Mark(3, -n)
			k.All()
		}
	})
	marks(t, k, [api.Marks]int{many * each, 0, many*each - 1})
	if taken.Load() != many*each/2 || started.Load() != 1 {
		t.Error("taken, started:", taken.Load(), started.Load())
	}
	if rose.Load() < 1 || rose.Load() > many*each-1 {
		t.Error("rose:", rose.Load())
	}
}

// P5.3: each sum is told to one alone.
func TestManyMarksAreTold(t *testing.T) {
	const many, each = 8, 1000
	k := count.New()
	told := make([][]int, many)
	atOnce(many, func(i int) {
		for range each {
			told[i] = append(told[i], k.Mark(5, 1))
		}
	})
	seen := map[int]int{}
	for _, l := range told {
		for _, n := range l {
			seen[n]++
		}
	}
	for n := 1; n <= many*each; n++ {
		if seen[n] != 1 {
			t.Fatalf("%d was told %d times", n, seen[n])
		}
	}
}
