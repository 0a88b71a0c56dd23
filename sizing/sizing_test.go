package sizing_test

import (
	"math"
	"math/big"
	"testing"

	"clapboard/api"
	"clapboard/fixed"
	"clapboard/ratio"
	"clapboard/sizing"
	"clapboard/style"
	"clapboard/value"
)

const (
	least = math.MinInt64
	most  = math.MaxInt64
	top   = api.MaxLen
)

type by = sizing.By

var one = ratio.Ratio{N: 1, D: 1}

// of calls what may abort: its results, or the error.
func of(v value.Value, b by) (n int64, is bool, e api.Errno) {
	e = fixed.Try(func() { n, is = sizing.Of(v, b) })
	return n, is, e
}

func between(low, high value.Value, b by) (l sizing.Limits, e api.Errno) {
	e = fixed.Try(func() { l = sizing.Between(low, high, b) })
	return l, e
}

func check(t *testing.T, v value.Value, b by, n int64, is bool, e api.Errno) {
	t.Helper()
	if got, gotIs, gotE := of(v, b); got != n || gotIs != is || gotE != e {
		t.Errorf("Of(%v, %v): %d, %t, %d, not %d, %t, %d", v, b, got, gotIs, gotE, n, is, e)
	}
}

func checkBetween(t *testing.T, low, high value.Value, b by, l sizing.Limits, e api.Errno) {
	t.Helper()
	if got, gotE := between(low, high, b); got != l || gotE != e {
		t.Errorf("Between(%v, %v, %v): %v, %d, not %v, %d", low, high, b, got, gotE, l, e)
	}
}

func auto() value.Value               { return value.Value{Kind: value.Auto} }
func none() value.Value               { return value.Value{Kind: value.None} }
func pixels(n int64) value.Value      { return value.Value{Kind: value.Fixed, N: n} }
func percent(parts int64) value.Value { return value.Value{Kind: value.Percent, N: parts} }

func ints() []int64 {
	return []int64{
		least, least + 1, -top - 1, -top, 1 - top, -6400, -65, -1, 0, 1, 2, 63, 64, 100, 640, 6400, 1 << 30, top - 1, top, top + 1,
		2*top + 1, most - 1, most,
	}
}

// ratios, of which some are not valid.
func ratios() []ratio.Ratio {
	return []ratio.Ratio{
		one, {N: 3, D: 2}, {N: 1, D: 3}, {N: 0, D: 1}, {N: -2, D: 3}, {N: 1 << 14, D: 1}, {N: 1<<14 + 1, D: 1}, {N: most, D: 1},
		{N: least, D: 1}, {N: 1, D: most}, {}, {N: 2, D: 4}, {N: 1, D: -1}, {N: 1},
	}
}

// told says with exact numbers what Of does.
func told(v value.Value, b by) (int64, bool, api.Errno) {
	n := big.NewInt(v.N)
	switch {
	case v.Kind == 3 && !b.Scale.Good():
		return 0, false, api.ErrArg
	case v.Kind == 3:
		// D is positive, so that Euclid's quotient is rounded down.
		n.Div(n.Mul(n, big.NewInt(b.Scale.N)), big.NewInt(b.Scale.D))
	case v.Kind == 4 && b.Known:
		n.Div(n.Mul(n, big.NewInt(b.Base)), big.NewInt(6400))
	default:
		return 0, false, api.OK
	}
	limit := big.NewInt(top)
	if n.CmpAbs(limit) > 0 {
		return 0, false, api.ErrRange
	}
	if b.Sizing == 2 {
		n.Sub(n, big.NewInt(b.Edges))
	}
	if n.CmpAbs(limit) > 0 {
		return 0, false, api.ErrRange
	}
	return max(n.Int64(), 0), true, api.OK
}

// P14.1

func TestOfExample(t *testing.T) {
	check(t, pixels(640), by{Scale: one, Sizing: style.Whole, Edges: 100}, 540, true, api.OK)
	check(t, pixels(640), by{Scale: one, Sizing: style.Inner, Edges: 100}, 640, true, api.OK)
	check(t, pixels(640), by{Scale: one, Edges: 100}, 640, true, api.OK)
	check(t, pixels(641), by{Scale: ratio.Ratio{N: 1, D: 2}, Sizing: style.Whole, Edges: 100}, 220, true, api.OK)
	check(t, percent(3200), by{Base: 641, Known: true, Scale: one, Sizing: style.Whole, Edges: 100}, 220, true, api.OK)
	check(t, percent(3200), by{Base: 641, Known: true, Scale: one, Sizing: style.Inner, Edges: 100}, 320, true, api.OK)
}

// At least 0, whether the edges are taken off or not.
func TestOfAtLeastZero(t *testing.T) {
	for _, edges := range []int64{639, 640, 641, 10000} {
		check(t, pixels(640), by{Scale: one, Sizing: style.Whole, Edges: edges}, max(640-edges, 0), true, api.OK)
	}
	check(t, pixels(-1), by{Scale: one, Sizing: style.Inner}, 0, true, api.OK)
	check(t, pixels(-100), by{Scale: one, Sizing: style.Whole, Edges: -101}, 1, true, api.OK)
	check(t, pixels(640), by{Scale: ratio.Ratio{N: -1, D: 1}, Sizing: style.Inner}, 0, true, api.OK)
	check(t, percent(6400), by{Base: -10, Known: true}, 0, true, api.OK)
	check(t, percent(-6400), by{Base: -10, Known: true}, 10, true, api.OK)
}

// Values that are no lengths don't look at the scale, the base or the edges.
func TestOfUntold(t *testing.T) {
	for _, r := range ratios() {
		for _, n := range ints() {
			for s := range 4 {
				b := by{Base: n, Known: true, Scale: r, Sizing: s, Edges: n}
				check(t, auto(), b, 0, false, api.OK)
				check(t, none(), b, 0, false, api.OK)
				check(t, value.Value{Kind: value.Auto, N: n}, b, 0, false, api.OK)
				check(t, value.Value{Kind: value.None, N: n}, b, 0, false, api.OK)
				b.Known = false
				check(t, percent(n), b, 0, false, api.OK)
				check(t, auto(), b, 0, false, api.OK)
			}
		}
	}
}

func TestOfAll(t *testing.T) {
	for _, n := range ints() {
		for _, other := range ints() {
			for s := range 4 {
				for _, r := range ratios() {
					for _, known := range []bool{false, true} {
						b := by{Base: 6400, Known: known, Scale: r, Sizing: s, Edges: other}
						want, is, e := told(pixels(n), b)
						check(t, pixels(n), b, want, is, e)
					}
				}
				for _, edges := range []int64{0, 100, top, least} {
					b := by{Base: other, Known: true, Sizing: s, Edges: edges}
					want, is, e := told(percent(n), b)
					check(t, percent(n), b, want, is, e)
				}
			}
		}
	}
}

// The scale is looked at before the edges, and percents have none.
func TestOfAborts(t *testing.T) {
	check(t, pixels(0), by{Scale: ratio.Ratio{N: 2, D: 2}, Sizing: style.Whole, Edges: least}, 0, false, api.ErrArg)
	check(t, pixels(0), by{Scale: one, Sizing: style.Whole, Edges: top + 1}, 0, false, api.ErrRange)
	check(t, pixels(0), by{Scale: one, Sizing: style.Inner, Edges: top + 1}, 0, true, api.OK)
	check(t, pixels(0), by{Scale: one, Sizing: style.Whole, Edges: top}, 0, true, api.OK)
	check(t, pixels(1), by{Scale: one, Sizing: style.Whole, Edges: -top}, 0, false, api.ErrRange)
	check(t, pixels(0), by{Scale: one, Sizing: style.Whole, Edges: -top}, top, true, api.OK)
	check(t, percent(6400), by{Base: top, Known: true}, top, true, api.OK)
	check(t, percent(6401), by{Base: top, Known: true}, 0, false, api.ErrRange)
}

// P14.2

func TestBetween(t *testing.T) {
	b := by{Base: 1000, Known: true, Scale: ratio.Ratio{N: 3, D: 2}, Sizing: style.Whole, Edges: 30}
	checkBetween(t, pixels(100), pixels(200), b, sizing.Limits{Least: 120, Most: 270, Bound: true}, api.OK)
	checkBetween(t, pixels(200), pixels(100), b, sizing.Limits{Least: 270, Most: 120, Bound: true}, api.OK)
	checkBetween(t, auto(), pixels(200), b, sizing.Limits{Most: 270, Bound: true}, api.OK)
	checkBetween(t, pixels(100), none(), b, sizing.Limits{Least: 120}, api.OK)
	checkBetween(t, auto(), none(), b, sizing.Limits{}, api.OK)
	checkBetween(t, none(), auto(), b, sizing.Limits{}, api.OK)
	checkBetween(t, percent(3200), percent(640), b, sizing.Limits{Least: 470, Most: 70, Bound: true}, api.OK)
	checkBetween(t, auto(), pixels(0), b, sizing.Limits{Bound: true}, api.OK)
	b.Known = false
	checkBetween(t, percent(3200), percent(640), b, sizing.Limits{}, api.OK)
	checkBetween(t, percent(3200), pixels(200), b, sizing.Limits{Most: 270, Bound: true}, api.OK)
	checkBetween(t, pixels(100), percent(640), b, sizing.Limits{Least: 120}, api.OK)
}

func TestBetweenAll(t *testing.T) {
	var values []value.Value
	for _, n := range ints() {
		values = append(values, pixels(n), percent(n))
	}
	values = append(values, auto(), none())
	for _, low := range values {
		for _, high := range values {
			for _, b := range []by{
				{Base: 6400, Known: true, Scale: one, Sizing: 1, Edges: 64},
				{Base: 6400, Known: true, Scale: one, Sizing: 2, Edges: 64},
				{Base: 100, Known: true, Scale: ratio.Ratio{N: 2, D: 6}, Sizing: 1},
				{Scale: ratio.Ratio{N: 1, D: 2}, Sizing: 2, Edges: -top},
			} {
				least, _, e := told(low, b)
				most, bound, highE := told(high, b)
				want := sizing.Limits{Least: least, Most: most, Bound: bound}
				if e == api.OK {
					e = highE
				}
				if e != api.OK {
					want = sizing.Limits{}
				}
				checkBetween(t, low, high, b, want, e)
			}
		}
	}
}

// The least value is computed first.
func TestBetweenAborts(t *testing.T) {
	bad := by{Base: top, Known: true}
	checkBetween(t, pixels(1), percent(most), bad, sizing.Limits{}, api.ErrArg)
	checkBetween(t, percent(most), pixels(1), bad, sizing.Limits{}, api.ErrRange)
	checkBetween(t, auto(), pixels(1), bad, sizing.Limits{}, api.ErrArg)
	checkBetween(t, pixels(1), none(), bad, sizing.Limits{}, api.ErrArg)
	checkBetween(t, auto(), none(), bad, sizing.Limits{}, api.OK)
}

// P14.3

func TestLimits(t *testing.T) {
	cases := []struct {
		l       sizing.Limits
		n, want int64
	}{
		{sizing.Limits{Least: 10, Most: 20, Bound: true}, 9, 10},
		{sizing.Limits{Least: 10, Most: 20, Bound: true}, 10, 10},
		{sizing.Limits{Least: 10, Most: 20, Bound: true}, 15, 15},
		{sizing.Limits{Least: 10, Most: 20, Bound: true}, 20, 20},
		{sizing.Limits{Least: 10, Most: 20, Bound: true}, 21, 20},
		{sizing.Limits{Least: 10, Most: 20}, 21, 21},
		{sizing.Limits{Least: 10, Most: 20}, 9, 10},
		{sizing.Limits{Least: 20, Most: 10, Bound: true}, 5, 20},
		{sizing.Limits{Least: 20, Most: 10, Bound: true}, 15, 20},
		{sizing.Limits{Least: 20, Most: 10, Bound: true}, 25, 20},
		{sizing.Limits{Bound: true}, 25, 0},
		{sizing.Limits{}, 25, 25},
		{sizing.Limits{}, -25, 0},
		{sizing.Limits{Least: -30, Most: -10, Bound: true}, 0, -10},
		{sizing.Limits{Least: least}, least, least},
		{sizing.Limits{Least: least}, most, most},
	}
	for _, c := range cases {
		if got := c.l.Of(c.n); got != c.want {
			t.Errorf("%v.Of(%d): %d, not %d", c.l, c.n, got, c.want)
		}
	}
}

func TestLimitsAll(t *testing.T) {
	for _, low := range ints() {
		for _, high := range ints() {
			for _, n := range ints() {
				got := sizing.Limits{Least: low, Most: high, Bound: true}.Of(n)
				if got < low || got != low && got != high && got != n || got != low && got > high || got < n && got < high {
					t.Errorf("%d of %d to %d: %d", n, low, high, got)
				}
				if got := (sizing.Limits{Least: low, Most: high}).Of(n); got < low || got < n || got != low && got != n {
					t.Errorf("%d of %d on: %d", n, low, got)
				}
			}
		}
	}
}

func TestFit(t *testing.T) {
	cases := [][4]int64{
		{50, 20, 80, 50}, {10, 20, 80, 20}, {100, 20, 80, 80}, {20, 20, 80, 20}, {80, 20, 80, 80}, {50, 80, 20, 80}, {90, 80, 20, 80},
		{-5, 0, 80, 0}, {-5, -7, 80, -5}, {-5, -3, -4, -3}, {most, least, most, most}, {least, least, most, least}, {0, most, least, most},
	}
	for _, c := range cases {
		if got := sizing.Fit(c[0], c[1], c[2]); got != c[3] {
			t.Errorf("Fit(%d, %d, %d): %d, not %d", c[0], c[1], c[2], got, c[3])
		}
	}
	for _, avail := range ints() {
		for _, low := range ints() {
			for _, high := range ints() {
				want := avail
				if want > high {
					want = high
				}
				if want < low {
					want = low
				}
				if got := sizing.Fit(avail, low, high); got != want {
					t.Errorf("Fit(%d, %d, %d): %d, not %d", avail, low, high, got, want)
				}
			}
		}
	}
}

func TestOutsideTry(t *testing.T) {
	calls := []func(){
		func() { sizing.Of(pixels(1), by{}) },
		func() { sizing.Between(pixels(1), none(), by{}) },
		func() { sizing.Between(auto(), pixels(1), by{}) },
	}
	for i, call := range calls {
		func() {
			defer func() {
				if recover() == nil {
					t.Errorf("call %d does not panic outside of Try", i)
				}
			}()
			call()
		}()
	}
}
