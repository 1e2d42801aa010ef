package count_test

import (
	"math"
	"math/big"
	"math/rand"
	"slices"
	"testing"

	"entrepot/api"
	"entrepot/count"
)

// P5.2
func TestShare(t *testing.T) {
	for _, c := range []struct {
		n       int
		weights []int
		want    []int
	}{
		{10, []int{1, 1, 1}, []int{4, 3, 3}},
		{11, []int{1, 1, 1}, []int{4, 4, 3}},
		{12, []int{1, 1, 1}, []int{4, 4, 4}},
		{0, []int{1, 2}, []int{0, 0}},
		{5, []int{7}, []int{5}},
		{5, []int{0, 7, 0}, []int{0, 5, 0}},
		{1, []int{0, 1, 1, 1}, []int{0, 1, 0, 0}},
		// The greatest rest comes first, wherever it stands: 1 * 3 / 6 cut is 0, rest 3.
		{1, []int{1, 2, 3}, []int{0, 0, 1}},
		{2, []int{1, 2, 3}, []int{0, 1, 1}},
		{4, []int{1, 2, 3}, []int{1, 1, 2}},
		{10, []int{3, 3, 4}, []int{3, 3, 4}},
		{3, []int{5, 1, 5, 1, 5}, []int{1, 0, 1, 0, 1}},
		{7, []int{2, 2, 3, 3}, []int{2, 1, 2, 2}},
		{most, []int{most, most}, []int{most / 2, most / 2}},
		{most, []int{most}, []int{most}},
		{most, []int{1, most}, []int{1, most - 1}},
		// Cut they are most/2 and most/2 - 1; the rests are most/2 and 2*most - 1 - most/2.
		{most, []int{0, most, most - 1}, []int{0, most / 2, most / 2}},
	} {
		parts, e := count.Share(c.n, c.weights)
		if !slices.Equal(parts, c.want) || e != api.OK {
			t.Errorf("Share(%d, %d) = %d, %d, not %d", c.n, c.weights, parts, e, c.want)
		}
	}
}

func same(size, n int) []int {
	return slices.Repeat([]int{n}, size)
}

// P5.2
func TestShareRefuses(t *testing.T) {
	for _, c := range []struct {
		n       int
		weights []int
	}{
		{-1, []int{1}},
		{most + 1, []int{1}},
		{math.MinInt, []int{1}},
		{math.MaxInt, []int{1}},
		{5, nil},
		{5, []int{}},
		{0, nil},
		{5, []int{0}},
		{0, []int{0}},
		{5, same(64, 0)},
		{5, same(65, 1)},
		{5, []int{1, -1, 1}},
		{5, []int{1, most + 1}},
		{5, []int{-1}},
		{5, []int{2, -2}},
		{5, []int{math.MinInt, math.MaxInt}},
		{0, []int{math.MinInt, math.MinInt, 1}},
	} {
		if parts, e := count.Share(c.n, c.weights); len(parts) != 0 || e != api.ErrArg {
			t.Errorf("Share(%d, %d) = %d, %d", c.n, c.weights, parts, e)
		}
	}
}

// P5.2: 64 weights are not too many, whatever is shared.
func TestShareAmongMany(t *testing.T) {
	for n := range 130 {
		parts, e := count.Share(n, same(64, most))
		if len(parts) != 64 || e != api.OK {
			t.Fatal(n, len(parts), e)
		}
		for i, part := range parts {
			want := n / 64
			if i < n%64 {
				want++
			}
			if part != want {
				t.Errorf("Share(%d, 64 equal ones): %d", n, parts)
				break
			}
		}
	}
}

// plainShare gives what is left over one by one, each to the greatest rest that has not got one yet.
func plainShare(n int, weights []int) []int {
	whole := new(big.Int)
	for _, weight := range weights {
		whole.Add(whole, big.NewInt(int64(weight)))
	}
	parts, rests, left := make([]int, len(weights)), make([]*big.Int, len(weights)), n
	for i, weight := range weights {
		product := new(big.Int).Mul(big.NewInt(int64(n)), big.NewInt(int64(weight)))
		part, rest := new(big.Int).QuoRem(product, whole, new(big.Int))
		parts[i], rests[i] = int(part.Int64()), rest
		left -= parts[i]
	}
	for range left {
		best := 0
		for i, rest := range rests {
			if rest.Cmp(rests[best]) > 0 {
				best = i
			}
		}
		parts[best]++
		rests[best] = big.NewInt(-1)
	}
	return parts
}

// P5.2: by chance, beside numbers of any length; together they are n.
func TestShareIsThePlainOne(t *testing.T) {
	r := rand.New(rand.NewSource(6))
	for range 5000 {
		weights := make([]int, 1+r.Intn(64))
		for i := range weights {
			weights[i] = r.Intn(most>>r.Intn(41) + 1)
		}
		if r.Intn(2) == 0 {
			// Small ones have equal rests.
			for i := range weights {
				weights[i] %= 4
			}
		}
		if r.Intn(2) == 0 {
			weights[r.Intn(len(weights))] = most
		}
		if slices.Max(weights) == 0 {
			continue
		}
		n := r.Intn(most>>r.Intn(41) + 1)
		parts, e := count.Share(n, weights)
		if want := plainShare(n, weights); !slices.Equal(parts, want) || e != api.OK {
			t.Fatalf("Share(%d, %d) = %d, %d, not %d", n, weights, parts, e, want)
		}
		sum := 0
		for _, part := range parts {
			sum += part
		}
		if sum != n {
			t.Fatalf("Share(%d, %d) is %d together", n, weights, sum)
		}
	}
}

// R3
func TestShareIsNewEachTime(t *testing.T) {
	weights := []int{1, 2, 3}
	first, _ := count.Share(60, weights)
	second, _ := count.Share(60, weights)
	clear(first[:cap(first)])
	if want := []int{10, 20, 30}; !slices.Equal(second, want) || !slices.Equal(weights, []int{1, 2, 3}) {
		t.Error("changed with an answer:", second, weights)
	}
	weights[0] = 50
	if want := []int{10, 20, 30}; !slices.Equal(second, want) {
		t.Error("changed with an argument:", second)
	}
}
