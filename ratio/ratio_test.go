package ratio_test

import (
	"math"
	"math/big"
	"testing"

	"clapboard/api"
	"clapboard/ratio"
)

const (
	least = math.MinInt64
	most  = math.MaxInt64
)

// ints are the edges of int64, their neighbours, and ordinary numbers.
func ints() []int64 {
	return []int64{
		least, least + 1, least / 2, -1 << 32, -6, -4, -3, -2, -1,
		0, 1, 2, 3, 4, 6, 64, 4096, 1 << 32, 1<<44 + 1, 1 << 62, most/2 + 2, most - 1, most,
	}
}

// goods are all valid ratios of these ints.
func goods() []ratio.Ratio {
	var all []ratio.Ratio
	for _, n := range ints() {
		for _, d := range ints() {
			if r := (ratio.Ratio{N: n, D: d}); valid(r) {
				all = append(all, r)
			}
		}
	}
	return all
}

func bads() []ratio.Ratio {
	return []ratio.Ratio{
		{}, {N: 1}, {N: 2, D: 4}, {N: -2, D: 4}, {N: 0, D: 2}, {N: 0, D: -1}, {N: 1, D: -1}, {N: -1, D: -2},
		{N: least, D: 2}, {N: least, D: least}, {N: 1, D: least}, {N: most, D: most}, {N: 6, D: 3},
	}
}

// valid says it as the document does, by another way than the program's.
func valid(r ratio.Ratio) bool {
	if r.D < 1 {
		return false
	}
	n, d := new(big.Int).Abs(big.NewInt(r.N)), big.NewInt(r.D)
	return new(big.Int).GCD(nil, nil, n, d).Cmp(big.NewInt(1)) == 0
}

func exact(r ratio.Ratio) *big.Rat {
	return big.NewRat(r.N, r.D)
}

// checkRatio holds an answer against the exact ratio, or against ErrRange if its parts are not ints.
func checkRatio(t *testing.T, what string, got ratio.Ratio, e api.Errno, want *big.Rat) {
	t.Helper()
	if !want.Num().IsInt64() || !want.Denom().IsInt64() {
		if e != api.ErrRange || got != (ratio.Ratio{}) {
			t.Errorf("%s: %v, %d, not ErrRange", what, got, e)
		}
		return
	}
	if e != api.OK || got.N != want.Num().Int64() || got.D != want.Denom().Int64() {
		t.Errorf("%s: %v, %d, not %v", what, got, e, want)
	}
}

// checkInt holds an answer against the exact integer, or against ErrRange.
func checkInt(t *testing.T, r ratio.Ratio, x int64, got int64, e api.Errno, want *big.Int) {
	t.Helper()
	if !want.IsInt64() {
		if e != api.ErrRange || got != 0 {
			t.Errorf("%v of %d: %d, %d, not ErrRange", r, x, got, e)
		}
		return
	}
	if e != api.OK || got != want.Int64() {
		t.Errorf("%v of %d: %d, %d, not %v", r, x, got, e, want)
	}
}

// floor rounds toward negative infinity: the denominator is positive, so that Euclid's quotient does.
func floor(x *big.Rat) *big.Int {
	return new(big.Int).Div(x.Num(), x.Denom())
}

// P2.1

func TestOf(t *testing.T) {
	for _, n := range ints() {
		for _, d := range ints() {
			got, e := ratio.Of(n, d)
			if d == 0 {
				if e != api.ErrZero || got != (ratio.Ratio{}) {
					t.Errorf("Of(%d, 0): %v, %d", n, got, e)
				}
				continue
			}
			checkRatio(t, "Of", got, e, big.NewRat(n, d))
			if e == api.OK && !got.Good() {
				t.Errorf("Of(%d, %d) is not valid: %v", n, d, got)
			}
		}
	}
}

func TestOfEdges(t *testing.T) {
	cases := []struct {
		n, d int64
		want ratio.Ratio
		e    api.Errno
	}{
		{6, -4, ratio.Ratio{N: -3, D: 2}, api.OK},
		{-6, -4, ratio.Ratio{N: 3, D: 2}, api.OK},
		{0, -8, ratio.Ratio{N: 0, D: 1}, api.OK},
		{0, least, ratio.Ratio{N: 0, D: 1}, api.OK},
		{0, 0, ratio.Ratio{}, api.ErrZero},
		{least, 1, ratio.Ratio{N: least, D: 1}, api.OK},
		{least, -1, ratio.Ratio{}, api.ErrRange},
		{least, -2, ratio.Ratio{N: 1 << 62, D: 1}, api.OK},
		{least, least, ratio.Ratio{N: 1, D: 1}, api.OK},
		{1, least, ratio.Ratio{}, api.ErrRange},
		{2, least, ratio.Ratio{N: -1, D: 1 << 62}, api.OK},
		{most, least, ratio.Ratio{}, api.ErrRange},
		{least, most, ratio.Ratio{N: least, D: most}, api.OK},
	}
	for _, c := range cases {
		if got, e := ratio.Of(c.n, c.d); got != c.want || e != c.e {
			t.Errorf("Of(%d, %d): %v, %d", c.n, c.d, got, e)
		}
	}
}

func TestGood(t *testing.T) {
	for _, n := range ints() {
		for _, d := range ints() {
			r := ratio.Ratio{N: n, D: d}
			if r.Good() != valid(r) {
				t.Errorf("%v: %v", r, r.Good())
			}
		}
	}
	for _, r := range bads() {
		if r.Good() {
			t.Errorf("%v is good", r)
		}
	}
	for _, r := range []ratio.Ratio{{N: 0, D: 1}, {N: -3, D: 2}, {N: least, D: 1}, {N: least, D: most}, {N: 1, D: most}} {
		if !r.Good() {
			t.Errorf("%v is not good", r)
		}
	}
}

// P2.2

func TestCmp(t *testing.T) {
	for _, r := range goods() {
		for _, s := range goods() {
			if got, want := r.Cmp(s), exact(r).Cmp(exact(s)); got != want {
				t.Errorf("%v and %v: %d, not %d", r, s, got, want)
			}
		}
	}
	third, half := ratio.Ratio{N: 1, D: 3}, ratio.Ratio{N: 1, D: 2}
	if third.Cmp(half) != -1 || half.Cmp(third) != 1 || half.Cmp(half) != 0 {
		t.Error("ordinary ratios")
	}
}

func TestTimes(t *testing.T) {
	for _, r := range goods() {
		for _, s := range goods() {
			got, e := r.Times(s)
			checkRatio(t, "Times", got, e, new(big.Rat).Mul(exact(r), exact(s)))
		}
	}
}

func TestTimesEdges(t *testing.T) {
	cases := []struct {
		r, s, want ratio.Ratio
		e          api.Errno
	}{
		{ratio.Ratio{N: -3, D: 2}, ratio.Ratio{N: 2, D: 3}, ratio.Ratio{N: -1, D: 1}, api.OK},
		{ratio.Ratio{N: 0, D: 1}, ratio.Ratio{N: 5, D: 7}, ratio.Ratio{N: 0, D: 1}, api.OK},
		{ratio.Ratio{N: most, D: 2}, ratio.Ratio{N: 2, D: most}, ratio.Ratio{N: 1, D: 1}, api.OK},
		{ratio.Ratio{N: least, D: 3}, ratio.Ratio{N: 3, D: 4}, ratio.Ratio{N: -1 << 61, D: 1}, api.OK},
		{ratio.Ratio{N: least, D: 1}, ratio.Ratio{N: -1, D: 1}, ratio.Ratio{}, api.ErrRange},
		{ratio.Ratio{N: 1, D: most}, ratio.Ratio{N: 1, D: 2}, ratio.Ratio{}, api.ErrRange},
		{ratio.Ratio{N: most, D: 1}, ratio.Ratio{N: 2, D: 1}, ratio.Ratio{}, api.ErrRange},
	}
	for _, c := range cases {
		if got, e := c.r.Times(c.s); got != c.want || e != c.e {
			t.Errorf("%v * %v: %v, %d", c.r, c.s, got, e)
		}
	}
}

func TestNotValid(t *testing.T) {
	for _, bad := range bads() {
		for _, s := range append(goods(), bads()...) {
			if bad.Cmp(s) != 0 || s.Cmp(bad) != 0 {
				t.Errorf("Cmp of %v and %v", bad, s)
			}
			if got, e := bad.Times(s); e != api.ErrArg || got != (ratio.Ratio{}) {
				t.Errorf("%v * %v: %v, %d", bad, s, got, e)
			}
			if got, e := s.Times(bad); e != api.ErrArg || got != (ratio.Ratio{}) {
				t.Errorf("%v * %v: %v, %d", s, bad, got, e)
			}
		}
		for _, x := range ints() {
			if got, e := bad.Down(x); e != api.ErrArg || got != 0 {
				t.Errorf("Down of %v: %d, %d", bad, got, e)
			}
			if got, e := bad.Half(x); e != api.ErrArg || got != 0 {
				t.Errorf("Half of %v: %d, %d", bad, got, e)
			}
		}
	}
}

// P2.3

func TestDown(t *testing.T) {
	for _, r := range goods() {
		for _, x := range ints() {
			product := new(big.Rat).Mul(exact(r), big.NewRat(x, 1))
			got, e := r.Down(x)
			checkInt(t, r, x, got, e, floor(product))
		}
	}
}

func TestHalf(t *testing.T) {
	for _, r := range goods() {
		for _, x := range ints() {
			product := new(big.Rat).Mul(exact(r), big.NewRat(x, 1))
			got, e := r.Half(x)
			checkInt(t, r, x, got, e, floor(product.Add(product, big.NewRat(1, 2))))
		}
	}
}

func TestRounding(t *testing.T) {
	cases := []struct {
		r          ratio.Ratio
		x          int64
		down, half int64
		eDown      api.Errno
		eHalf      api.Errno
	}{
		{ratio.Ratio{N: -3, D: 2}, 3, -5, -4, 0, 0},
		{ratio.Ratio{N: 3, D: 2}, 3, 4, 5, 0, 0},
		{ratio.Ratio{N: 1, D: 3}, 4, 1, 1, 0, 0},
		{ratio.Ratio{N: 1, D: 3}, 5, 1, 2, 0, 0},
		{ratio.Ratio{N: 1, D: 3}, -4, -2, -1, 0, 0},
		{ratio.Ratio{N: 1, D: 3}, -5, -2, -2, 0, 0},
		{ratio.Ratio{N: 1, D: 1}, least, least, least, 0, 0},
		{ratio.Ratio{N: -1, D: 1}, least, 0, 0, api.ErrRange, api.ErrRange},
		{ratio.Ratio{N: most, D: 2}, 2, most, most, 0, 0},
		{ratio.Ratio{N: most, D: 2}, 3, 0, 0, api.ErrRange, api.ErrRange},
		// The greatest int and a half, (2^64 - 1) / 2: only rounded down it is an int.
		{ratio.Ratio{N: 1<<32 - 1, D: 2}, 1<<32 + 1, most, 0, 0, api.ErrRange},
		// The least int less a half, -(2^64 + 1) / 2: only rounded up it is an int.
		{ratio.Ratio{N: 67280421310721, D: 2}, -274177, 0, least, api.ErrRange, 0},
	}
	for _, c := range cases {
		if got, e := c.r.Down(c.x); got != c.down || e != c.eDown {
			t.Errorf("Down of %v, %d: %d, %d", c.r, c.x, got, e)
		}
		if got, e := c.r.Half(c.x); got != c.half || e != c.eHalf {
			t.Errorf("Half of %v, %d: %d, %d", c.r, c.x, got, e)
		}
	}
}
