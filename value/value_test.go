package value_test

import (
	"math"
	"math/big"
	"testing"

	"clapboard/api"
	"clapboard/fixed"
	"clapboard/ratio"
	"clapboard/value"
)

const (
	least = math.MinInt64
	most  = math.MaxInt64
	every = value.MayAuto + value.MayNone + value.MayPct + value.MayNeg
	// top is the greatest number of 64ths.
	top = api.MaxCss * 64
)

var (
	nan   = math.NaN()
	inf   = math.Inf(1)
	minus = math.Copysign(0, -1)
)

// nans differ in their bits, one has the sign bit set, and one signals.
func nans() []float64 {
	return []float64{
		nan, math.Float64frombits(0xfff8000000000001), math.Float64frombits(0x7ff0000000000001),
		math.Float64frombits(math.MaxUint64),
	}
}

// mays are all sums of what may be permitted, and ints in which other bits are set as well.
func mays() []int {
	l := []int{every + 1, every + 1 + value.MayPct, 1 << 40, -1, -1 &^ value.MayNeg, math.MinInt, math.MaxInt}
	for may := range every + 1 {
		l = append(l, may)
	}
	return l
}

func check(t *testing.T, x value.Raw, may int, want value.Value, e api.Errno) {
	t.Helper()
	if got, gotE := value.Decode(x, may); got != want || gotE != e {
		t.Errorf("Decode(%v, %d): %v, %d, not %v, %d", x, may, got, gotE, want, e)
	}
}

// checkBoth holds of a float what is not different in percent.
func checkBoth(t *testing.T, f float64, may int, want value.Value, e api.Errno) {
	t.Helper()
	check(t, value.Raw{V: f}, may, want, e)
	check(t, value.Raw{V: f, Pct: true}, may, want, e)
}

// P9.1

func TestNumbers(t *testing.T) {
	if value.Auto != 1 || value.None != 2 || value.Fixed != 3 || value.Percent != 4 {
		t.Error("the numbers of the kinds")
	}
	if value.MayAuto != 1 || value.MayNone != 2 || value.MayPct != 4 || value.MayNeg != 8 {
		t.Error("the numbers of what is permitted")
	}
}

func TestDecodeNaN(t *testing.T) {
	for _, f := range nans() {
		for _, may := range mays() {
			if may&1 != 0 {
				checkBoth(t, f, may, value.Value{Kind: value.Auto}, api.OK)
			} else {
				checkBoth(t, f, may, value.Value{}, api.ErrNaN)
			}
		}
	}
}

func TestDecodeInfinite(t *testing.T) {
	for _, may := range mays() {
		if may&2 != 0 {
			checkBoth(t, inf, may, value.Value{Kind: value.None}, api.OK)
		} else {
			checkBoth(t, inf, may, value.Value{}, api.ErrInf)
		}
		checkBoth(t, -inf, may, value.Value{}, api.ErrInf)
	}
}

// decoded says of a finite float what the document does, with exact numbers.
func decoded(x value.Raw, may int) (value.Value, api.Errno) {
	if x.Pct && may&4 == 0 {
		return value.Value{}, api.ErrStyle
	}
	twice := new(big.Rat).Mul(new(big.Rat).SetFloat64(x.V), big.NewRat(128, 1))
	twice.Add(twice, big.NewRat(1, 1))
	// The denominators are positive, so that Euclid's quotients are rounded down.
	n := new(big.Int).Div(twice.Num(), twice.Denom())
	n.Div(n, big.NewInt(2))
	if new(big.Int).Abs(n).Cmp(big.NewInt(1<<30)) > 0 {
		return value.Value{}, api.ErrRange
	}
	if n.Sign() < 0 && may&8 == 0 {
		return value.Value{}, api.ErrStyle
	}
	if x.Pct {
		return value.Value{Kind: 4, N: n.Int64()}, api.OK
	}
	return value.Value{Kind: 3, N: n.Int64()}, api.OK
}

// sizes of finite floats, ordinary ones and those at which something changes.
func sizes() []float64 {
	l := []float64{
		0, 0x1p-1074, 0x0.fffffffffffffp-1022, 0x1p-1022, 1e-9, 0.001, 0.01, 0.1, 1.0 / 3, 0.5, 1, 1.5, 2.5, 12.5, 50, 99.99, 100,
		1000003.7, 1<<24 - 1, 1 << 24, 1<<24 + 1, 1 << 30, 1 << 53, 1 << 57, 1 << 58, 0x1p63, 0x1p64, 1e300, math.MaxFloat64,
	}
	// About each half of a 64th: next to 0, next to one pixel, and next to the limit.
	for _, n := range []float64{0, 1, 2, 63, 64, top - 1, top, top + 1} {
		half := (n + 0.5) / 64
		l = append(l, n/64, math.Nextafter(half, 0), half, math.Nextafter(half, inf))
	}
	return l
}

func TestDecodeFinite(t *testing.T) {
	for _, size := range sizes() {
		for _, f := range []float64{size, -size} {
			for _, pct := range []bool{false, true} {
				for _, may := range mays() {
					x := value.Raw{V: f, Pct: pct}
					want, e := decoded(x, may)
					check(t, x, may, want, e)
				}
			}
		}
	}
}

func TestDecodeEdges(t *testing.T) {
	cases := []struct {
		f   float64
		may int
		n   int64
		e   api.Errno
	}{
		{12.5, 0, 800, api.OK},
		{-12.5, value.MayNeg, -800, api.OK},
		{-12.5, every - value.MayNeg, 0, api.ErrStyle},
		{0, 0, 0, api.OK},
		{minus, 0, 0, api.OK},
		{minus, every, 0, api.OK},
		{0x1p-1074, 0, 0, api.OK},
		{-0x1p-1074, 0, 0, api.OK},
		{1.0 / 128, 0, 1, api.OK},
		{math.Nextafter(1.0/128, 0), 0, 0, api.OK},
		{-1.0 / 128, 0, 0, api.OK},
		{math.Nextafter(-1.0/128, -1), 0, 0, api.ErrStyle},
		{math.Nextafter(-1.0/128, -1), value.MayNeg, -1, api.OK},
		{-3.0 / 128, value.MayNeg, -1, api.OK},
		{api.MaxCss, 0, top, api.OK},
		{api.MaxCss + 1.0/256, 0, top, api.OK},
		{api.MaxCss + 1.0/128, 0, 0, api.ErrRange},
		{api.MaxCss + 1, every, 0, api.ErrRange},
		{-api.MaxCss, value.MayNeg, -top, api.OK},
		{-api.MaxCss - 1.0/128, value.MayNeg, -top, api.OK},
		{-api.MaxCss - 1.0/64, value.MayNeg, 0, api.ErrRange},
		{-api.MaxCss, 0, 0, api.ErrStyle},
		{-api.MaxCss - 1, 0, 0, api.ErrRange},
		{math.MaxFloat64, every, 0, api.ErrRange},
		{-math.MaxFloat64, 0, 0, api.ErrRange},
	}
	for _, c := range cases {
		fixedWant, percentWant := value.Value{Kind: value.Fixed, N: c.n}, value.Value{Kind: value.Percent, N: c.n}
		if c.e != api.OK {
			fixedWant, percentWant = value.Value{}, value.Value{}
		}
		check(t, value.Raw{V: c.f}, c.may, fixedWant, c.e)
		check(t, value.Raw{V: c.f, Pct: true}, c.may|value.MayPct, percentWant, c.e)
		// That it may not be in percent comes ahead of all that is wrong with the number.
		check(t, value.Raw{V: c.f, Pct: true}, c.may&^value.MayPct, value.Value{}, api.ErrStyle)
	}
}

// P9.2

// in calls what may abort: its results, or the error.
func in(v value.Value, base int64, r ratio.Ratio) (n int64, ok bool, e api.Errno) {
	e = fixed.Try(func() { n, ok = v.In(base, r) })
	return n, ok, e
}

// made calls a function of layer 4 for the same result.
func made(f func() int64) (n int64, ok bool, e api.Errno) {
	e = fixed.Try(func() { n = f() })
	return n, e == api.OK, e
}

func ints() []int64 {
	return []int64{
		least, least + 1, -api.MaxLen - 1, -api.MaxLen, -1 << 30, -6401, -6400, -3200, -65, -64, -3, -1,
		0, 1, 2, 63, 64, 100, 800, 3200, 3333, 6399, 6400, 6401, 1 << 30, 1<<30 + 1, api.MaxLen, api.MaxLen + 1, most,
	}
}

// ratios, of which some are not valid.
func ratios() []ratio.Ratio {
	return []ratio.Ratio{
		{N: 1, D: 1}, {N: 3, D: 2}, {N: 1, D: 3}, {N: 0, D: 1}, {N: -2, D: 3}, {N: 1 << 14, D: 1}, {N: 1<<14 + 1, D: 1}, {N: 1, D: 4096},
		{N: most, D: 1}, {N: least, D: 1}, {N: 1, D: most}, {}, {N: 2, D: 4}, {N: 0, D: 2}, {N: 1, D: -1}, {N: 1},
	}
}

func TestIn(t *testing.T) {
	for _, n := range ints() {
		for _, base := range ints() {
			for _, r := range ratios() {
				wantN, wantOK, wantE := made(func() int64 { return fixed.Scale(n, r) })
				if got, ok, e := in(value.Value{Kind: value.Fixed, N: n}, base, r); got != wantN || ok != wantOK || e != wantE {
					t.Errorf("%d 64ths at %v: %d, %v, %d, not %d, %v, %d", n, r, got, ok, e, wantN, wantOK, wantE)
				}
				wantN, wantOK, wantE = made(func() int64 { return fixed.Part(base, n, 6400) })
				if got, ok, e := in(value.Value{Kind: value.Percent, N: n}, base, r); got != wantN || ok != wantOK || e != wantE {
					t.Errorf("%d 64ths of a percent of %d: %d, %v, %d, not %d, %v, %d", n, base, got, ok, e, wantN, wantOK, wantE)
				}
			}
		}
	}
}

func TestInEdges(t *testing.T) {
	one, half := ratio.Ratio{N: 1, D: 1}, ratio.Ratio{N: 1, D: 2}
	cases := []struct {
		v    value.Value
		base int64
		r    ratio.Ratio
		n    int64
		e    api.Errno
	}{
		{value.Value{Kind: value.Fixed, N: 800}, 77, ratio.Ratio{N: 3, D: 2}, 1200, api.OK},
		{value.Value{Kind: value.Fixed, N: 3}, 0, half, 1, api.OK},
		{value.Value{Kind: value.Fixed, N: -3}, 0, half, -2, api.OK},
		{value.Value{Kind: value.Fixed, N: 0}, most, one, 0, api.OK},
		{value.Value{Kind: value.Fixed, N: top}, 0, ratio.Ratio{N: 1 << 14, D: 1}, api.MaxLen, api.OK},
		{value.Value{Kind: value.Fixed, N: top}, 0, ratio.Ratio{N: 1<<14 + 1, D: 1}, 0, api.ErrRange},
		{value.Value{Kind: value.Fixed, N: 0}, 0, ratio.Ratio{}, 0, api.ErrArg},
		{value.Value{Kind: value.Fixed, N: most}, 0, ratio.Ratio{N: 2, D: 2}, 0, api.ErrArg},
		{value.Value{Kind: value.Percent, N: 3200}, 641, one, 320, api.OK},
		{value.Value{Kind: value.Percent, N: 3200}, -641, one, -321, api.OK},
		{value.Value{Kind: value.Percent, N: -3200}, 641, one, -321, api.OK},
		{value.Value{Kind: value.Percent, N: 6400}, api.MaxLen, one, api.MaxLen, api.OK},
		{value.Value{Kind: value.Percent, N: 6401}, api.MaxLen, one, 0, api.ErrRange},
		{value.Value{Kind: value.Percent, N: 1}, 6399, one, 0, api.OK},
		{value.Value{Kind: value.Percent, N: 3200}, 640, ratio.Ratio{}, 320, api.OK},
		{value.Value{Kind: value.Percent, N: 3200}, 640, ratio.Ratio{N: most, D: 1}, 320, api.OK},
	}
	for _, c := range cases {
		if got, ok, e := in(c.v, c.base, c.r); got != c.n || ok != (c.e == api.OK) || e != c.e {
			t.Errorf("%v of %d at %v: %d, %v, %d, not %d, %d", c.v, c.base, c.r, got, ok, e, c.n, c.e)
		}
	}
}

// What is no length is none, whatever the number, the base and the ratio are.
func TestInOfOthers(t *testing.T) {
	for _, kind := range []int{value.Auto, value.None, 0, -1, 5, math.MinInt, math.MaxInt} {
		for _, n := range []int64{0, 640, least, most} {
			for _, r := range ratios() {
				if got, ok, e := in(value.Value{Kind: kind, N: n}, most, r); got != 0 || ok || e != api.OK {
					t.Errorf("kind %d with %d at %v: %d, %v, %d", kind, n, r, got, ok, e)
				}
			}
		}
	}
}

func TestDecodedIn(t *testing.T) {
	v, e := value.Decode(value.Raw{V: 12.5}, 0)
	if got, ok := v.In(0, ratio.Ratio{N: 3, D: 2}); v != (value.Value{Kind: value.Fixed, N: 800}) || e != api.OK || got != 1200 || !ok {
		t.Errorf("12.5: %v, %d, %d, %v", v, e, got, ok)
	}
	v, e = value.Decode(value.Raw{V: 12.5, Pct: true}, value.MayPct)
	if got, ok := v.In(6400, ratio.Ratio{N: 3, D: 2}); v != (value.Value{Kind: value.Percent, N: 800}) || e != api.OK || got != 800 || !ok {
		t.Errorf("12.5%%: %v, %d, %d, %v", v, e, got, ok)
	}
}
