package share_test

import (
	"math"
	"math/big"
	"slices"
	"testing"

	"clapboard/api"
	"clapboard/share"
)

const (
	least = math.MinInt64
	most  = math.MaxInt64
	top   = 1 << 62 // the greatest sum of weights
)

// totals are lengths: ordinary ones and the ends.
func totals() []int64 {
	return []int64{
		-api.MaxLen, -api.MaxLen + 1, -1 << 38, -1000003, -64, -63, -10, -7, -3, -2, -1,
		0, 1, 2, 3, 7, 10, 63, 64, 640, 1000003, 1 << 38, api.MaxLen - 1, api.MaxLen,
	}
}

// noLengths are totals that are none.
func noLengths() []int64 {
	return []int64{least, least + 1, -2 * api.MaxLen, -api.MaxLen - 1, api.MaxLen + 1, 2 * api.MaxLen, most - 1, most}
}

// weightLists are those that may be split by.
func weightLists() [][]int64 {
	return [][]int64{
		nil, {}, {0}, {0, 0, 0}, {1}, {7}, {top}, {1, 1}, {1, 1, 1}, {1, 2}, {2, 1}, {0, 5, 0, 7, 0}, {3, 1, 4, 1, 5, 9, 2, 6},
		{1, 0, 0}, {0, 0, 1}, {1000003, 1, 1000003}, {1, top - 1}, {top - 1, 1}, {top / 2, top / 2}, {top / 2, 0, top / 2},
		{top / 4, top / 4, top / 4, top / 4}, {1, 1, 1, top - 3}, {top/3 + 1, top / 3, top / 3},
		longest(func(int) int64 { return 1 }), longest(func(int) int64 { return 0 }),
		longest(func(int) int64 { return top / api.MaxItems }), longest(func(i int) int64 { return int64(i*i%97) * int64(i%3) }),
	}
}

// longest is the longest list of weights.
func longest(weight func(i int) int64) []int64 {
	list := make([]int64, api.MaxItems)
	for i := range list {
		list[i] = weight(i)
	}
	return list
}

func whole(weights []int64) *big.Int {
	sum := new(big.Int)
	for _, w := range weights {
		sum.Add(sum, big.NewInt(w))
	}
	return sum
}

// parts as the document says them; Euclid's quotient by a positive number is rounded down.
func parts(total int64, weights []int64) []int64 {
	list := make([]int64, len(weights))
	all, before, bound := whole(weights), new(big.Int), new(big.Int)
	if all.Sign() == 0 {
		return list
	}
	for i, w := range weights {
		before.Add(before, big.NewInt(w))
		next := new(big.Int).Mul(big.NewInt(total), before)
		next.Div(next, all)
		list[i] = new(big.Int).Sub(next, bound).Int64()
		bound = next
	}
	return list
}

func split(t *testing.T, total int64, weights []int64) []int64 {
	t.Helper()
	list, e := share.Split(total, weights)
	if e != api.OK || len(list) != len(weights) {
		t.Fatalf("Split(%d, %v): %v, %d", total, weights, list, e)
	}
	return list
}

func sumOf(list []int64) int64 {
	var sum int64
	for _, n := range list {
		sum += n
	}
	return sum
}

// P5.1

func TestSplit(t *testing.T) {
	for _, weights := range weightLists() {
		for _, total := range totals() {
			if got, want := split(t, total, weights), parts(total, weights); !slices.Equal(got, want) {
				t.Errorf("Split(%d, %v): %v, not %v", total, weights, got, want)
			}
		}
	}
}

func TestSplitSmall(t *testing.T) {
	for total := int64(-9); total <= 9; total++ {
		for n := range int64(5 * 5 * 5 * 5) {
			weights := []int64{n % 5, n / 5 % 5, n / 25 % 5, n / 125}
			if got, want := split(t, total, weights), parts(total, weights); !slices.Equal(got, want) {
				t.Errorf("Split(%d, %v): %v, not %v", total, weights, got, want)
			}
		}
	}
}

func TestSplitEdges(t *testing.T) {
	cases := []struct {
		total         int64
		weights, want []int64
	}{
		{10, []int64{1, 1, 1}, []int64{3, 3, 4}},
		{-10, []int64{1, 1, 1}, []int64{-4, -3, -3}},
		{10, []int64{1, 2, 3, 4}, []int64{1, 2, 3, 4}},
		{1, []int64{1, 1}, []int64{0, 1}},
		{-1, []int64{1, 1}, []int64{-1, 0}},
		{5, []int64{0, 3, 0}, []int64{0, 5, 0}},
		{5, []int64{0, 0}, []int64{0, 0}},
		{-5, []int64{0}, []int64{0}},
		{5, nil, nil},
		{0, []int64{1, 2}, []int64{0, 0}},
		{3, []int64{top - 1, 1}, []int64{2, 1}},
		{api.MaxLen, []int64{top}, []int64{api.MaxLen}},
		{-api.MaxLen, []int64{top / 2, top / 2}, []int64{-api.MaxLen / 2, -api.MaxLen / 2}},
		{api.MaxLen, []int64{1, top - 1}, []int64{0, api.MaxLen}},
		{-api.MaxLen, []int64{1, top - 1}, []int64{-1, 1 - api.MaxLen}},
	}
	for _, c := range cases {
		if got := split(t, c.total, c.weights); !slices.Equal(got, c.want) {
			t.Errorf("Split(%d, %v): %v", c.total, c.weights, got)
		}
	}
}

func TestSplitErrors(t *testing.T) {
	long := make([]int64, api.MaxItems+1)
	longNegative := slices.Repeat([]int64{-1}, api.MaxItems+1)
	cases := []struct {
		total   int64
		weights []int64
		e       api.Errno
	}{
		{1, long, api.ErrCount},
		{1, longNegative, api.ErrCount},
		{most, longNegative, api.ErrCount},
		{1, slices.Repeat([]int64{top}, 5000), api.ErrCount},
		{1, []int64{-1}, api.ErrArg},
		{1, []int64{least}, api.ErrArg},
		{1, []int64{1, 2, -1}, api.ErrArg},
		{1, []int64{2, -1, 5}, api.ErrArg},
		{most, []int64{-1}, api.ErrArg},
		{1, []int64{top, top, -1}, api.ErrArg},
		{1, []int64{most, least}, api.ErrArg},
		{1, []int64{top + 1}, api.ErrRange},
		{1, []int64{top, 1}, api.ErrRange},
		{1, []int64{1, top}, api.ErrRange},
		{1, []int64{top, 0, 1, 0}, api.ErrRange},
		{1, []int64{most}, api.ErrRange},
		{0, []int64{top, top}, api.ErrRange},
		// As int64 values, these sums wrap to -2, 0, 0 and 1.
		{1, []int64{most, most}, api.ErrRange},
		{1, []int64{most, most, 2}, api.ErrRange},
		{1, []int64{top, top, top, top}, api.ErrRange},
		{1, []int64{most, most, 3}, api.ErrRange},
		{1, longest(func(int) int64 { return top/api.MaxItems + 1 }), api.ErrRange},
	}
	for _, c := range cases {
		if got, e := share.Split(c.total, c.weights); len(got) != 0 || e != c.e {
			t.Errorf("Split(%d, %d weights): %v, %d, not the error %d", c.total, len(c.weights), got, e, c.e)
		}
	}
}

func TestSplitOfNoLength(t *testing.T) {
	for _, total := range noLengths() {
		for _, weights := range [][]int64{nil, {}, {0}, {0, 0}, {1, 1}, {top}, {top, top}} {
			if got, e := share.Split(total, weights); len(got) != 0 || e != api.ErrRange {
				t.Errorf("Split(%d, %v): %v, %d", total, weights, got, e)
			}
		}
	}
}

func TestEven(t *testing.T) {
	for _, total := range totals() {
		for _, n := range []int{0, 1, 2, 3, 7, 64, 100, api.MaxItems - 1, api.MaxItems} {
			got, e := share.Even(total, n)
			want := parts(total, slices.Repeat([]int64{1}, n))
			if e != api.OK || !slices.Equal(got, want) {
				t.Errorf("Even(%d, %d): %v, %d, not %v", total, n, got, e, want)
			}
		}
	}
}

func TestEvenEdges(t *testing.T) {
	cases := []struct {
		total int64
		n     int
		want  []int64
		e     api.Errno
	}{
		{10, 3, []int64{3, 3, 4}, api.OK},
		{-10, 3, []int64{-4, -3, -3}, api.OK},
		{2, 4, []int64{0, 1, 0, 1}, api.OK},
		{-9, 1, []int64{-9}, api.OK},
		{5, 0, nil, api.OK},
		{api.MaxLen, 2, []int64{api.MaxLen / 2, api.MaxLen / 2}, api.OK},
		{5, -1, nil, api.ErrArg},
		{5, math.MinInt, nil, api.ErrArg},
		{most, -1, nil, api.ErrArg},
		{5, api.MaxItems + 1, nil, api.ErrCount},
		{5, math.MaxInt, nil, api.ErrCount},
		{most, api.MaxItems + 1, nil, api.ErrCount},
		{api.MaxLen + 1, 0, nil, api.ErrRange},
		{-api.MaxLen - 1, 1, nil, api.ErrRange},
		{most, 3, nil, api.ErrRange},
		{least, api.MaxItems, nil, api.ErrRange},
	}
	for _, c := range cases {
		if got, e := share.Even(c.total, c.n); !slices.Equal(got, c.want) || e != c.e {
			t.Errorf("Even(%d, %d): %v, %d", c.total, c.n, got, e)
		}
	}
}

// The weights are neither changed, nor what lies behind them, nor kept, and no two results share memory.
func TestOwnMemory(t *testing.T) {
	all := []int64{1, 2, 3, 77, 78}
	weights := all[:3]
	first := split(t, 12, weights)
	second := split(t, 12, weights)
	if !slices.Equal(all, []int64{1, 2, 3, 77, 78}) {
		t.Errorf("the weights: %v", all)
	}
	weights[0] = 1000
	first[1] = 1000
	if !slices.Equal(first, []int64{2, 1000, 6}) || !slices.Equal(second, []int64{2, 4, 6}) {
		t.Errorf("%v, %v", first, second)
	}
	evens, _ := share.Even(4, 2)
	evens[0] = 1000
	if again, _ := share.Even(4, 2); !slices.Equal(again, []int64{2, 2}) {
		t.Errorf("Even again: %v", again)
	}
}

// P5.2

func TestNothingIsLost(t *testing.T) {
	for _, weights := range weightLists() {
		for _, total := range totals() {
			want := total
			if whole(weights).Sign() == 0 {
				want = 0
			}
			if got := sumOf(split(t, total, weights)); got != want {
				t.Errorf("the sum for %d and %v: %d", total, weights, got)
			}
		}
	}
	for _, total := range totals() {
		for n := 1; n <= 40; n++ {
			if list, e := share.Even(total, n); e != api.OK || sumOf(list) != total {
				t.Errorf("the sum of Even(%d, %d): %v", total, n, list)
			}
		}
	}
}

func TestWithinOneUnit(t *testing.T) {
	for _, weights := range weightLists() {
		all := whole(weights)
		for _, total := range totals() {
			for i, part := range split(t, total, weights) {
				if weights[i] == 0 && part != 0 {
					t.Errorf("the weight 0 at %d of %v: %d of %d", i, weights, part, total)
				}
				if all.Sign() == 0 {
					continue
				}
				// The part less its exact share, both times the sum of the weights.
				off := new(big.Int).Mul(big.NewInt(part), all)
				off.Sub(off, new(big.Int).Mul(big.NewInt(total), big.NewInt(weights[i])))
				if off.CmpAbs(all) >= 0 {
					t.Errorf("the part %d of %v: %d of %d", i, weights, part, total)
				}
			}
		}
	}
}

func TestWeightsTogether(t *testing.T) {
	for _, weights := range weightLists() {
		if len(weights) > 100 {
			continue
		}
		for _, total := range totals() {
			apart := split(t, total, weights)
			for i := range weights {
				for j := i + 1; j <= len(weights); j++ {
					joined := slices.Concat(weights[:i], []int64{sumOf(weights[i:j])}, weights[j:])
					want := slices.Concat(apart[:i], []int64{sumOf(apart[i:j])}, apart[j:])
					if got := split(t, total, joined); !slices.Equal(got, want) {
						t.Errorf("%d by %v, %d to %d together: %v, not %v", total, weights, i, j, got, want)
					}
				}
			}
		}
	}
}
