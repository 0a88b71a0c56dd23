package real_test

import (
	"math"
	"math/big"
	"testing"

	"clapboard/api"
	"clapboard/ratio"
	"clapboard/real"
)

const (
	least = math.MinInt64
	most  = math.MaxInt64
)

var (
	nan   = math.NaN()
	inf   = math.Inf(1)
	minus = math.Copysign(0, -1)
)

// nans differ in their bits, one has the sign bit set, and one signals.
func nans() []float64 {
	return []float64{
		nan, math.Float64frombits(0xfff8000000000001), math.Float64frombits(0x7ff0000000000001),
		math.Float64frombits(math.MaxUint64),
	}
}

// ascending floats, all different in the order of all floats, without NaN.
func ascending() []float64 {
	var negative, all []float64
	for _, f := range positives() {
		negative = append(negative, -f)
	}
	for i := len(negative) - 1; i >= 0; i-- {
		all = append(all, negative[i])
	}
	all = append(all, minus, 0)
	return append(all, positives()...)
}

// positives ascend: subnormal floats, those about the powers of 2 at which something changes, and ordinary ones.
func positives() []float64 {
	return []float64{
		0x1p-1074, 0x1p-1073, 0x1.8p-1073, 0x0.fffffffffffffp-1022, 0x1p-1022, math.Nextafter(0x1p-1022, 1), 0x1p-140,
		0x1p-64, 0x1p-63, 0x1.8p-63, 0x1p-62, 0x1.8p-62, 0x1p-61, 0x1.8p-61, 0x1p-21, 0x1.0000000000001p-21,
		0.0001, 0.001, 0.1, 1.0 / 3, math.Nextafter(0.5, 0), 0.5, math.Nextafter(0.5, 1), math.Nextafter(1, 0), 1,
		math.Nextafter(1, 2), 1.25, 1.5, 2.5, 3, 12.5, 64, 1e6 + 0.5, 1 << 24, 1<<52 - 0.5, 1<<52 + 1, 1<<53 - 1, 1 << 53,
		1<<53 + 2, 1 << 62, math.Nextafter(0x1p63, 0), 0x1p63, math.Nextafter(0x1p63, inf), 0x1p64, 1e300,
		math.MaxFloat64, inf,
	}
}

// finite ones, as exact numbers.
func exact(f float64) *big.Rat {
	return new(big.Rat).SetFloat64(f)
}

// same is true of NaNs as well, and false of the two zeros.
func same(f, g float64) bool {
	return math.IsNaN(f) && math.IsNaN(g) || math.Float64bits(f) == math.Float64bits(g)
}

// floor rounds toward negative infinity: the denominator is positive, so that Euclid's quotient does.
func floor(x *big.Rat) *big.Int {
	return new(big.Int).Div(x.Num(), x.Denom())
}

// P3.1

func TestKinds(t *testing.T) {
	if real.NaN != 1 || real.Infinite != 2 || real.Nought != 3 || real.Small != 4 || real.Normal != 5 {
		t.Error("the numbers of the kinds")
	}
}

func TestKind(t *testing.T) {
	cases := []struct {
		f    float64
		kind int
	}{
		{inf, real.Infinite}, {0, real.Nought},
		{0x1p-1074, real.Small}, {1e-310, real.Small}, {0x0.fffffffffffffp-1022, real.Small},
		{0x1p-1022, real.Normal}, {math.Nextafter(0x1p-1022, 1), real.Normal},
		{0.1, real.Normal}, {1, real.Normal}, {1e18, real.Normal}, {math.MaxFloat64, real.Normal},
	}
	for _, c := range cases {
		if kind, negative := real.Kind(c.f); kind != c.kind || negative {
			t.Errorf("%g: %d, %v", c.f, kind, negative)
		}
		opposite := math.Copysign(c.f, -1)
		if kind, negative := real.Kind(opposite); kind != c.kind || !negative {
			t.Errorf("%g: %d, %v", opposite, kind, negative)
		}
	}
	for _, f := range nans() {
		if kind, negative := real.Kind(f); kind != real.NaN || negative {
			t.Errorf("NaN %x: %d, %v", math.Float64bits(f), kind, negative)
		}
	}
}

func TestCmp(t *testing.T) {
	all := ascending()
	for i, a := range all {
		for j, b := range all {
			want := 0
			if i < j {
				want = -1
			}
			if i > j {
				want = 1
			}
			if got := real.Cmp(a, b); got != want {
				t.Errorf("%g and %g: %d, not %d", a, b, got, want)
			}
		}
	}
}

func TestCmpZeros(t *testing.T) {
	if real.Cmp(minus, 0) != -1 || real.Cmp(0, minus) != 1 || real.Cmp(minus, minus) != 0 || real.Cmp(0, 0) != 0 {
		t.Error("zeros")
	}
}

func TestCmpNaN(t *testing.T) {
	for _, a := range nans() {
		for _, b := range nans() {
			if got := real.Cmp(a, b); got != 0 {
				t.Errorf("two NaNs: %d", got)
			}
		}
		for _, b := range ascending() {
			if real.Cmp(a, b) != 1 || real.Cmp(b, a) != -1 {
				t.Errorf("NaN and %g", b)
			}
		}
	}
}

// P3.2

func TestExact(t *testing.T) {
	for _, f := range ascending() {
		if math.IsInf(f, 0) {
			continue
		}
		got, e := real.Exact(f)
		want := exact(f)
		if !want.Num().IsInt64() || !want.Denom().IsInt64() {
			if e != api.ErrRange || got != (ratio.Ratio{}) {
				t.Errorf("%g: %v, %d, not ErrRange", f, got, e)
			}
			continue
		}
		if e != api.OK || got.N != want.Num().Int64() || got.D != want.Denom().Int64() {
			t.Errorf("%g: %v, %d, not %v", f, got, e, want)
		}
		if !got.Good() {
			t.Errorf("%g: %v is not valid", f, got)
		}
	}
}

func TestExactEdges(t *testing.T) {
	cases := []struct {
		f    float64
		want ratio.Ratio
		e    api.Errno
	}{
		{0, ratio.Ratio{N: 0, D: 1}, api.OK},
		{minus, ratio.Ratio{N: 0, D: 1}, api.OK},
		{-2.75, ratio.Ratio{N: -11, D: 4}, api.OK},
		{96, ratio.Ratio{N: 96, D: 1}, api.OK},
		{0.1, ratio.Ratio{N: 3602879701896397, D: 1 << 55}, api.OK},
		{0x1p-62, ratio.Ratio{N: 1, D: 1 << 62}, api.OK},
		{-0x1.8p-61, ratio.Ratio{N: -3, D: 1 << 62}, api.OK},
		{0x1p-63, ratio.Ratio{}, api.ErrRange},
		{0x1.8p-62, ratio.Ratio{}, api.ErrRange},
		{0.0001, ratio.Ratio{}, api.ErrRange},
		{0x1p-1074, ratio.Ratio{}, api.ErrRange},
		{-0x1p63, ratio.Ratio{N: least, D: 1}, api.OK},
		{0x1p63, ratio.Ratio{}, api.ErrRange},
		{math.Nextafter(0x1p63, 0), ratio.Ratio{N: 1<<63 - 1<<10, D: 1}, api.OK},
		{math.Nextafter(-0x1p63, -inf), ratio.Ratio{}, api.ErrRange},
		{math.MaxFloat64, ratio.Ratio{}, api.ErrRange},
		{inf, ratio.Ratio{}, api.ErrInf},
		{-inf, ratio.Ratio{}, api.ErrInf},
	}
	for _, c := range cases {
		if got, e := real.Exact(c.f); got != c.want || e != c.e {
			t.Errorf("%g: %v, %d", c.f, got, e)
		}
	}
	for _, f := range nans() {
		if got, e := real.Exact(f); got != (ratio.Ratio{}) || e != api.ErrNaN {
			t.Errorf("NaN: %v, %d", got, e)
		}
	}
}

// P3.3

// ints are about the sizes at which floats leave out ints, and the edges of int64.
func ints() []int64 {
	return []int64{
		least, least + 1, least + 511, least + 512, least + 513, -1<<54 - 1, -3, -1,
		0, 1, 2, 3, 5, 7, 10, 25, 64, 1000003, 1<<53 - 1, 1 << 53, 1<<53 + 1, 1<<53 + 2, 1<<53 + 3,
		1<<54 - 1, 1<<54 + 1, 1<<54 + 2, 1<<54 + 3, 1<<54 + 6, 1 << 62, 1<<62 + 1, 1<<62 + 255, 1<<62 + 256, 1<<62 + 257,
		1<<62 + 768, most - 1025, most - 512, most - 511, most - 510, most - 1, most,
	}
}

func TestNearest(t *testing.T) {
	for _, n := range ints() {
		for _, d := range ints() {
			r, e := ratio.Of(n, d)
			if e != api.OK {
				continue
			}
			// Big rounds to the nearest float, and of two to the one whose last bit is 0.
			want, _ := big.NewRat(r.N, r.D).Float64()
			if got := real.Nearest(r); !same(got, want) {
				t.Errorf("%v: %g, not %g", r, got, want)
			}
		}
	}
}

func TestNearestEdges(t *testing.T) {
	cases := []struct {
		r    ratio.Ratio
		want float64
	}{
		{ratio.Ratio{N: 1, D: 3}, math.Float64frombits(0x3fd5555555555555)},
		{ratio.Ratio{N: -2, D: 3}, -2.0 / 3},
		{ratio.Ratio{N: 3, D: 2}, 1.5},
		{ratio.Ratio{N: 0, D: 1}, 0},
		{ratio.Ratio{N: 1<<53 + 1, D: 1}, 1 << 53},
		{ratio.Ratio{N: 1<<53 + 3, D: 1}, 1<<53 + 4},
		{ratio.Ratio{N: -1<<53 - 1, D: 1}, -1 << 53},
		{ratio.Ratio{N: 1<<54 + 1, D: 2}, 1 << 53},
		{ratio.Ratio{N: 1<<54 + 3, D: 2}, 1<<53 + 2},
		{ratio.Ratio{N: most, D: 1}, 0x1p63},
		{ratio.Ratio{N: least, D: 1}, -0x1p63},
		{ratio.Ratio{N: 1, D: most}, 0x1p-63},
		{ratio.Ratio{N: least, D: most}, -1},
	}
	for _, c := range cases {
		if got := real.Nearest(c.r); !same(got, c.want) {
			t.Errorf("%v: %g, not %g", c.r, got, c.want)
		}
	}
}

func TestNearestOfTheNotValid(t *testing.T) {
	for _, r := range []ratio.Ratio{{}, {N: 1}, {N: 2, D: 4}, {N: 0, D: 2}, {N: 1, D: -1}, {N: least, D: 2}, {N: 1, D: least}} {
		if got := real.Nearest(r); !math.IsNaN(got) {
			t.Errorf("%v: %g", r, got)
		}
	}
}

func TestNearestOfExact(t *testing.T) {
	for _, f := range ascending() {
		r, e := real.Exact(f)
		if e != api.OK {
			continue
		}
		// What is exact comes back; only -0 has no ratio of its own.
		if got := real.Nearest(r); got != f || math.Signbit(got) != (f < 0) {
			t.Errorf("%g: %g", f, got)
		}
	}
}

// P3.4

func dens() []int64 {
	return []int64{1, 2, 3, 7, 10, 64, 100, 999999, 1<<20 - 1, 1 << 20}
}

func ranges() [][2]int64 {
	return [][2]int64{{least, most}, {least, least}, {most, most}, {-9, 9}, {0, 1000}, {5, 5}, {-1 << 30, -7}, {-1, 1 << 53}}
}

// grid says it as the document does, with exact numbers.
func grid(f float64, den, low, high int64) int64 {
	if math.IsInf(f, 1) {
		return high
	}
	if math.IsInf(f, -1) {
		return low
	}
	product := new(big.Rat).Mul(exact(f), big.NewRat(den, 1))
	nearest := floor(product.Add(product, big.NewRat(1, 2)))
	switch {
	case nearest.Cmp(big.NewInt(low)) < 0:
		return low
	case nearest.Cmp(big.NewInt(high)) > 0:
		return high
	}
	return nearest.Int64()
}

func checkGrid(t *testing.T, f float64, den, low, high int64) {
	t.Helper()
	want := grid(f, den, low, high)
	if got, e := real.Grid(f, den, low, high); got != want || e != api.OK {
		t.Errorf("Grid(%g, %d, %d, %d): %d, %d, not %d", f, den, low, high, got, e, want)
	}
}

func TestGrid(t *testing.T) {
	for _, f := range ascending() {
		for _, den := range dens() {
			for _, r := range ranges() {
				checkGrid(t, f, den, r[0], r[1])
			}
		}
	}
}

// Floats about each half of a part, where a product that is rounded would be a tie.
func TestGridAboutTies(t *testing.T) {
	for _, den := range dens() {
		for k := int64(-70); k <= 70; k++ {
			f := (float64(k) + 0.5) / float64(den)
			for _, g := range []float64{math.Nextafter(f, -inf), f, math.Nextafter(f, inf)} {
				checkGrid(t, g, den, least, most)
			}
		}
	}
}

func TestGridEdges(t *testing.T) {
	cases := []struct {
		f              float64
		den, low, high int64
		want           int64
	}{
		{1.5, 64, 0, 1000, 96},
		{-0.5, 1, -9, 9, 0},
		{0.5, 1, -9, 9, 1},
		{-1.5, 1, -9, 9, -1},
		{math.Nextafter(-0.5, -1), 1, -9, 9, -1},
		{math.Nextafter(0.5, 0), 1, -9, 9, 0},
		{minus, 64, -9, 9, 0},
		{0, 64, 1, 9, 1},
		{0x1p-1074, 1 << 20, -9, 9, 0},
		{-0x1p-1074, 1 << 20, -9, 9, 0},
		{0x1p-21, 1 << 20, -9, 9, 1},
		{-0x1p-21, 1 << 20, -9, 9, 0},
		{math.Nextafter(0x1p-21, 0), 1 << 20, -9, 9, 0},
		{100, 1, -9, 9, 9},
		{-100, 1, -9, 9, -9},
		{inf, 1, -9, 9, 9},
		{-inf, 1 << 20, -9, 9, -9},
		{inf, 64, least, most, most},
		{-inf, 64, least, most, least},
		{math.MaxFloat64, 1 << 20, least, most, most},
		{-math.MaxFloat64, 1 << 20, least, most, least},
		{0x1p63, 1, least, most, most},
		{-0x1p63, 1, least, most, least},
		{0x1p62, 2, least, most, most},
		{-0x1p62, 2, least, most, least},
		{0x1p62, 1, least, most, 1 << 62},
		{1<<51 + 0.5, 3, least, most, 3<<51 + 2},
		{1, 1, 7, 7, 7},
	}
	for _, c := range cases {
		if got, e := real.Grid(c.f, c.den, c.low, c.high); got != c.want || e != api.OK {
			t.Errorf("Grid(%g, %d, %d, %d): %d, %d, not %d", c.f, c.den, c.low, c.high, got, e, c.want)
		}
	}
}

func TestGridErrors(t *testing.T) {
	cases := []struct {
		f              float64
		den, low, high int64
		e              api.Errno
	}{
		{1, 0, 0, 9, api.ErrArg}, {1, -1, 0, 9, api.ErrArg}, {1, least, 0, 9, api.ErrArg},
		{1, 1<<20 + 1, 0, 9, api.ErrArg}, {1, most, 0, 9, api.ErrArg},
		{1, 1, 9, 8, api.ErrArg}, {inf, 1, most, least, api.ErrArg}, {1, 0, 9, 8, api.ErrArg},
		{nan, 0, 0, 9, api.ErrArg}, {nan, 1, 1, 0, api.ErrArg},
		{nan, 1, 0, 9, api.ErrNaN}, {nan, 1 << 20, 5, 5, api.ErrNaN}, {nans()[1], 64, least, most, api.ErrNaN},
	}
	for _, c := range cases {
		if got, e := real.Grid(c.f, c.den, c.low, c.high); got != 0 || e != c.e {
			t.Errorf("Grid(%g, %d, %d, %d): %d, %d, not %d", c.f, c.den, c.low, c.high, got, e, c.e)
		}
	}
}
