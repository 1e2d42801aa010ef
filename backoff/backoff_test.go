package backoff_test

import (
	"math"
	"math/big"
	"math/rand"
	"testing"

	"entrepot/backoff"
)

// waits is reckoned with numbers of any length.
func waits(base, most, tries int) int {
	if base < 1 || most < base || tries < 0 {
		return 0
	}
	// Doubled so often as 70 times, whatever begins at 1 or more is above any int.
	n := new(big.Int).Lsh(big.NewInt(int64(base)), uint(min(tries, 70)))
	if n.Cmp(big.NewInt(int64(most))) > 0 {
		return most
	}
	return int(n.Int64())
}

func next(now, base, most, tries int) int {
	n := new(big.Int).Add(big.NewInt(int64(now)), big.NewInt(int64(waits(base, most, tries))))
	if !n.IsInt64() {
		return math.MaxInt
	}
	return int(n.Int64())
}

// edges are numbers at which something may go wrong.
func edges() []int {
	return []int{math.MinInt, math.MinInt + 1, -1 << 40, -2, -1, 0, 1, 2, 3, 4, 5, 7, 8, 9, 10, 15, 16, 17, 61, 62, 63, 64, 65, 100, 1 << 31, 1<<31 + 1, 1 << 32, 1 << 40, 1<<61 - 1, 1 << 61, 1<<61 + 1, 1<<62 - 1, 1 << 62, 1<<62 + 1, math.MaxInt - 2, math.MaxInt - 1, math.MaxInt}
}

// P11.1: the chapter's example.
func TestExample(t *testing.T) {
	for tries, want := range []int{2, 4, 8, 10} {
		if n := backoff.Wait(2, 10, tries); n != want {
			t.Errorf("Wait(2, 10, %d) = %d, not %d", tries, n, want)
		}
	}
}

// P11.1: waits that were reckoned by hand.
func TestWait(t *testing.T) {
	for _, w := range []struct{ base, most, tries, want int }{
		{1, 1, 0, 1}, {1, 1, 1, 1}, {1, 1, math.MaxInt, 1},
		{1, 2, 1, 2}, {1, 3, 1, 2}, {1, 3, 2, 3}, {1, 4, 2, 4},
		{2, 16, 0, 2}, {2, 16, 1, 4}, {2, 16, 2, 8}, {2, 16, 3, 16}, {2, 16, 4, 16}, {2, 16, 1000, 16},
		{3, 7, 0, 3}, {3, 7, 1, 6}, {3, 7, 2, 7},
		{3, 6, 1, 6}, {3, 5, 1, 5}, {4, 7, 1, 7}, {4, 8, 1, 8},
		{5, 5, 0, 5}, {5, 5, 3, 5},
		{1, math.MaxInt, 61, 1 << 61}, {1, math.MaxInt, 62, 1 << 62}, {1, math.MaxInt, 63, math.MaxInt}, {1, math.MaxInt, 64, math.MaxInt}, {1, math.MaxInt, 65, math.MaxInt},
		{1<<62 - 1, math.MaxInt, 1, math.MaxInt - 1}, {1 << 62, math.MaxInt, 1, math.MaxInt}, {math.MaxInt, math.MaxInt, 0, math.MaxInt}, {math.MaxInt, math.MaxInt, 9, math.MaxInt},
		{3, math.MaxInt, 61, 3 << 61}, {3, math.MaxInt, 62, math.MaxInt},
	} {
		if n := backoff.Wait(w.base, w.most, w.tries); n != w.want {
			t.Errorf("Wait(%d, %d, %d) = %d, not %d", w.base, w.most, w.tries, n, w.want)
		}
	}
}

// P11.1: of what may not be there is no wait.
func TestWaitOfWhatMayNotBe(t *testing.T) {
	for _, w := range [][3]int{
		{0, 10, 0}, {-1, 10, 3}, {math.MinInt, 10, 0}, {0, 0, 0}, {-5, -1, 2},
		{2, 1, 0}, {10, 9, 4}, {1, 0, 0}, {1, -1, 0}, {math.MaxInt, math.MaxInt - 1, 0}, {1, math.MinInt, 1},
		{2, 10, -1}, {2, 10, math.MinInt}, {2, 2, -1},
	} {
		if n := backoff.Wait(w[0], w[1], w[2]); n != 0 {
			t.Errorf("Wait(%v) = %d", w, n)
		}
	}
}

// P11.1: at all edges, and by chance.
func TestWaitBesideLongNumbers(t *testing.T) {
	looked := func(base, most, tries int) {
		if n := backoff.Wait(base, most, tries); n != waits(base, most, tries) {
			t.Errorf("Wait(%d, %d, %d) = %d, not %d", base, most, tries, n, waits(base, most, tries))
		}
	}
	for _, base := range edges() {
		for _, most := range edges() {
			for _, tries := range edges() {
				looked(base, most, tries)
			}
		}
	}
	r := rand.New(rand.NewSource(1))
	for range 200000 {
		looked(int(r.Uint64()>>r.Intn(64)), int(r.Uint64()>>r.Intn(64)), r.Intn(70)-2)
	}
}

// P11.3
func TestWaitsDoNotFallNorPassTheCap(t *testing.T) {
	for _, base := range edges() {
		for _, most := range edges() {
			if base < 1 || most < base {
				continue
			}
			last := backoff.Wait(base, most, 0)
			if last != base {
				t.Errorf("the first wait of %d, %d is %d", base, most, last)
			}
			for tries := range 80 {
				n := backoff.Wait(base, most, tries)
				if n < last || n > most {
					t.Errorf("Wait(%d, %d, %d) = %d behind %d", base, most, tries, n, last)
				}
				last = n
			}
			if last != most || backoff.Wait(base, most, math.MaxInt) != most {
				t.Errorf("Wait(%d, %d, ..) ends at %d", base, most, last)
			}
		}
	}
}

// P11.1: by hand.
func TestNext(t *testing.T) {
	for _, n := range []struct{ now, base, most, tries, want int }{
		{0, 2, 16, 0, 2}, {0, 2, 16, 3, 16}, {7, 2, 16, 1, 11}, {100, 2, 10, 9, 110},
		{-3, 2, 16, 0, -1}, {-2, 2, 16, 0, 0}, {math.MinInt, 2, 16, 0, math.MinInt + 2}, {math.MinInt, 1, math.MaxInt, 70, -1},
		{math.MaxInt - 2, 2, 16, 0, math.MaxInt}, {math.MaxInt - 3, 2, 16, 0, math.MaxInt - 1}, {math.MaxInt - 1, 2, 16, 0, math.MaxInt}, {math.MaxInt, 2, 16, 0, math.MaxInt}, {math.MaxInt, 1, math.MaxInt, 70, math.MaxInt},
		{0, 1, math.MaxInt, 70, math.MaxInt}, {1, 1, math.MaxInt, 70, math.MaxInt}, {-1, 1, math.MaxInt, 70, math.MaxInt - 1},
		// What may not be is no wait: it is due now.
		{5, 0, 16, 0, 5}, {5, 2, 1, 0, 5}, {5, 2, 16, -1, 5}, {math.MaxInt, 0, 0, 0, math.MaxInt}, {math.MinInt, 0, 0, 0, math.MinInt}, {-1, 2, 16, math.MinInt, -1},
	} {
		if got := backoff.Next(n.now, n.base, n.most, n.tries); got != n.want {
			t.Errorf("Next(%d, %d, %d, %d) = %d, not %d", n.now, n.base, n.most, n.tries, got, n.want)
		}
	}
}

// P11.1
func TestNextBesideLongNumbers(t *testing.T) {
	looked := func(now, base, most, tries int) {
		if n := backoff.Next(now, base, most, tries); n != next(now, base, most, tries) {
			t.Errorf("Next(%d, %d, %d, %d) = %d, not %d", now, base, most, tries, n, next(now, base, most, tries))
		}
	}
	for _, now := range edges() {
		for _, base := range edges() {
			for _, most := range []int{0, 1, 16, 1 << 61, 1 << 62, math.MaxInt} {
				for _, tries := range []int{-1, 0, 1, 4, 61, 62, 63, math.MaxInt} {
					looked(now, base, most, tries)
				}
			}
		}
	}
	r := rand.New(rand.NewSource(2))
	for range 100000 {
		looked(int(r.Uint64()), int(r.Uint64()>>r.Intn(64)), int(r.Uint64()>>r.Intn(64)), r.Intn(70)-2)
	}
}
