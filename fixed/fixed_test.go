package fixed_test

import (
	"errors"
	"math"
	"math/big"
	"runtime"
	"testing"

	"clapboard/api"
	"clapboard/fixed"
	"clapboard/ratio"
)

const (
	least = math.MinInt64
	most  = math.MaxInt64
)

// ints are about the ends of the lengths and of int64, and ordinary numbers.
func ints() []int64 {
	return []int64{
		least, least + 1, least + 64, least + api.MaxLen, -1<<60 - 1, -api.MaxLen - 1, -api.MaxLen, -api.MaxLen + 1, -1 << 38,
		-1000003, -129, -128, -127, -97, -96, -95, -65, -64, -63, -33, -32, -31, -2, -1,
		0, 1, 2, 3, 31, 32, 33, 63, 64, 65, 95, 96, 97, 127, 128, 129, 1000003,
		1 << 38, 1<<38 + 1, api.MaxLen - 1, api.MaxLen, api.MaxLen + 1, 1<<60 + 1, most - api.MaxLen, most - 64, most - 1, most,
	}
}

// tried calls what may abort: its result, or 0 and the error.
func tried(f func() int64) (int64, api.Errno) {
	var n int64
	e := fixed.Try(func() { n = f() })
	return n, e
}

// panics calls f outside of Try: does it panic, and with what?
func panics(f func()) (value any, did bool) {
	defer func() {
		value = recover()
		did = value != nil
	}()
	f()
	return nil, false
}

func isLength(n *big.Int) bool {
	return n.IsInt64() && n.Int64() >= -api.MaxLen && n.Int64() <= api.MaxLen
}

// check holds a result against the exact number, or against ErrRange if that is not a length.
func check(t *testing.T, what string, f func() int64, want *big.Int) {
	t.Helper()
	got, e := tried(f)
	if !isLength(want) {
		if got != 0 || e != api.ErrRange {
			t.Errorf("%s: %d, %d, not ErrRange", what, got, e)
		}
		return
	}
	if e != api.OK || got != want.Int64() {
		t.Errorf("%s: %d, %d, not %v", what, got, e, want)
	}
}

// checkFail holds that a result is an error.
func checkFail(t *testing.T, what string, f func() int64, want api.Errno) {
	t.Helper()
	if got, e := tried(f); got != 0 || e != want {
		t.Errorf("%s: %d, %d, not the error %d", what, got, e, want)
	}
}

// down divides, rounding toward negative infinity.
func down(x, d *big.Int) *big.Int {
	if d.Sign() < 0 {
		x, d = new(big.Int).Neg(x), new(big.Int).Neg(d)
	}
	// By a positive divisor, Euclid's quotient is rounded down.
	return new(big.Int).Div(x, d)
}

// P4.1

func TestTry(t *testing.T) {
	calls := 0
	if e := fixed.Try(func() { calls++ }); e != api.OK || calls != 1 {
		t.Errorf("without an abort: %d after %d calls", e, calls)
	}
	if e := fixed.Try(nil); e != api.ErrArg {
		t.Errorf("of nil: %d", e)
	}
}

func TestFail(t *testing.T) {
	for e := api.Errno(-1); e <= api.ErrState+1; e++ {
		after := false
		got := fixed.Try(func() {
			fixed.Fail(e)
			after = true
		})
		if got != e {
			t.Errorf("Fail(%d): %d", e, got)
		}
		if after != (e == api.OK) {
			t.Errorf("Fail(%d): goes on: %v", e, after)
		}
	}
}

func TestFailDeep(t *testing.T) {
	var deep func(n int)
	returned := 0
	deep = func(n int) {
		if n == 0 {
			fixed.Fail(api.ErrDepth)
		}
		deep(n - 1)
		returned++
	}
	if e := fixed.Try(func() { deep(1000) }); e != api.ErrDepth || returned != 0 {
		t.Errorf("%d, %d returned", e, returned)
	}
}

func TestFailRunsDeferredCalls(t *testing.T) {
	ran := false
	e := fixed.Try(func() {
		defer func() { ran = true }()
		fixed.Fail(api.ErrWord)
	})
	if e != api.ErrWord || !ran {
		t.Errorf("%d, %v", e, ran)
	}
}

func TestTryNested(t *testing.T) {
	var inner api.Errno
	after := false
	outer := fixed.Try(func() {
		inner = fixed.Try(func() { fixed.Fail(api.ErrNum) })
		after = true
	})
	if inner != api.ErrNum || outer != api.OK || !after {
		t.Errorf("only inside: %d, %d, %v", inner, outer, after)
	}
	outer = fixed.Try(func() {
		inner = fixed.Try(func() { fixed.Fail(api.ErrLong) })
		fixed.Fail(api.ErrForm)
	})
	if inner != api.ErrLong || outer != api.ErrForm {
		t.Errorf("inside, then outside: %d, %d", inner, outer)
	}
	outer = fixed.Try(func() {
		inner = fixed.Try(func() {})
		fixed.Fail(inner)
		inner = fixed.Try(nil)
		fixed.Fail(inner)
	})
	if outer != api.ErrArg {
		t.Errorf("passed on: %d", outer)
	}
}

// A deferred call's own Try neither takes nor stops an abort that is under way.
func TestTryDuringAnAbort(t *testing.T) {
	var inner api.Errno
	outer := fixed.Try(func() {
		defer func() { inner = fixed.Try(func() { fixed.Add(api.MaxLen, 1) }) }()
		fixed.Fail(api.ErrKind)
	})
	if inner != api.ErrRange || outer != api.ErrKind {
		t.Errorf("%d, %d", inner, outer)
	}
}

func TestTryAgain(t *testing.T) {
	for range 3 {
		if e := fixed.Try(func() { fixed.Fail(api.ErrNone) }); e != api.ErrNone {
			t.Errorf("abort: %d", e)
		}
		if e := fixed.Try(func() {}); e != api.OK {
			t.Errorf("after an abort: %d", e)
		}
	}
}

func TestOtherPanicsPropagate(t *testing.T) {
	own := errors.New("own")
	for _, value := range []any{own, "text", 7, api.ErrRange, api.OK, struct{ e api.Errno }{api.ErrRange}} {
		got, did := panics(func() { fixed.Try(func() { panic(value) }) })
		if !did || got != value {
			t.Errorf("%v: %v, %v", value, got, did)
		}
		got, did = panics(func() {
			fixed.Try(func() { fixed.Try(func() { panic(value) }) })
		})
		if !did || got != value {
			t.Errorf("%v, nested: %v, %v", value, got, did)
		}
	}
}

func TestRuntimePanicsPropagate(t *testing.T) {
	none := []int{}
	got, _ := panics(func() { fixed.Try(func() { none[len(none)] = 1 }) })
	if _, is := got.(runtime.Error); !is {
		t.Errorf("an index: %v", got)
	}
	got, _ = panics(func() { fixed.Try(func() { panic(nil) }) })
	if _, is := got.(*runtime.PanicNilError); !is {
		t.Errorf("nil: %v", got)
	}
}

func TestOutsideOfTry(t *testing.T) {
	fails := []func(){
		func() { fixed.Fail(api.ErrArg) },
		func() { fixed.Of(api.MaxLen + 1) },
		func() { fixed.Add(api.MaxLen, 1) },
		func() { fixed.Sub(-api.MaxLen, 1) },
		func() { fixed.Part(1, 1, 0) },
		func() { fixed.Part(most, most, 1) },
		func() { fixed.Scale(1, ratio.Ratio{}) },
		func() { fixed.Scale(most, ratio.Ratio{N: 1, D: 1}) },
		func() { fixed.Px(most) },
	}
	for i, f := range fails {
		if _, did := panics(f); !did {
			t.Errorf("call %d does not panic", i)
		}
	}
	if value, did := panics(func() { fixed.Fail(api.OK) }); did {
		t.Errorf("Fail(OK) panics: %v", value)
	}
}

// The value of an abort is an abort wherever it came from.
func TestAbortThatWasHeld(t *testing.T) {
	value, _ := panics(func() { fixed.Fail(api.ErrStyle) })
	if e := fixed.Try(func() { panic(value) }); e != api.ErrStyle {
		t.Errorf("%d", e)
	}
}

// P4.2

func TestOf(t *testing.T) {
	for _, n := range ints() {
		check(t, "Of", func() int64 { return fixed.Of(n) }, big.NewInt(n))
	}
	if n, e := tried(func() int64 { return fixed.Of(api.MaxLen) }); n != 1<<44 || e != api.OK {
		t.Errorf("the greatest: %d, %d", n, e)
	}
	if n, e := tried(func() int64 { return fixed.Of(-api.MaxLen) }); n != -1<<44 || e != api.OK {
		t.Errorf("the least: %d, %d", n, e)
	}
	checkFail(t, "above", func() int64 { return fixed.Of(1<<44 + 1) }, api.ErrRange)
	checkFail(t, "below", func() int64 { return fixed.Of(-1<<44 - 1) }, api.ErrRange)
}

func TestAddTwo(t *testing.T) {
	for _, a := range ints() {
		check(t, "Add of one", func() int64 { return fixed.Add(a) }, big.NewInt(a))
		for _, b := range ints() {
			want := new(big.Int).Add(big.NewInt(a), big.NewInt(b))
			if !isLength(big.NewInt(a)) {
				// The first partial sum is none, whatever the sum is.
				want = big.NewInt(a)
			}
			check(t, "Add", func() int64 { return fixed.Add(a, b) }, want)
		}
	}
}

func TestAddMany(t *testing.T) {
	cases := []struct {
		l    []int64
		want int64
		e    api.Errno
	}{
		{nil, 0, api.OK},
		{[]int64{}, 0, api.OK},
		{[]int64{1, 2, 3, 4}, 10, api.OK},
		{[]int64{5, -7, 1}, -1, api.OK},
		{[]int64{api.MaxLen, -1, 1, -api.MaxLen, -api.MaxLen}, -api.MaxLen, api.OK},
		{[]int64{api.MaxLen, -2 * api.MaxLen}, -api.MaxLen, api.OK},
		{[]int64{api.MaxLen, 1}, 0, api.ErrRange},
		{[]int64{-api.MaxLen, -1}, 0, api.ErrRange},
		{[]int64{api.MaxLen, 1, -1}, 0, api.ErrRange},
		{[]int64{-1, api.MaxLen, 1, 1, -5}, 0, api.ErrRange},
		{[]int64{api.MaxLen + 1, -5}, 0, api.ErrRange},
		{[]int64{1, most, least}, 0, api.ErrRange},
		{[]int64{most, most, 2}, 0, api.ErrRange},
		{[]int64{least, least}, 0, api.ErrRange},
		{[]int64{-1, least}, 0, api.ErrRange},
		{[]int64{most, least}, 0, api.ErrRange},
		{[]int64{api.MaxLen, most}, 0, api.ErrRange},
	}
	for _, c := range cases {
		got, e := tried(func() int64 { return fixed.Add(c.l...) })
		if got != c.want || e != c.e {
			t.Errorf("Add(%v): %d, %d", c.l, got, e)
		}
	}
}

func TestAddKeepsItsList(t *testing.T) {
	l := []int64{1, 2, 3}
	if n := fixed.Add(l...); n != 6 || l[0] != 1 || l[1] != 2 || l[2] != 3 {
		t.Errorf("%d of %v", n, l)
	}
}

func TestSub(t *testing.T) {
	for _, a := range ints() {
		for _, b := range ints() {
			want := new(big.Int).Sub(big.NewInt(a), big.NewInt(b))
			check(t, "Sub", func() int64 { return fixed.Sub(a, b) }, want)
		}
	}
}

func TestSubEdges(t *testing.T) {
	cases := []struct {
		a, b, want int64
		e          api.Errno
	}{
		{7, 10, -3, api.OK},
		{most, most - 5, 5, api.OK},
		{least, least, 0, api.OK},
		{0, api.MaxLen, -api.MaxLen, api.OK},
		{-1, api.MaxLen, 0, api.ErrRange},
		{api.MaxLen, -1, 0, api.ErrRange},
		// These differences wrap to 1, -1 and 0.
		{least, most, 0, api.ErrRange},
		{most, least, 0, api.ErrRange},
		{0, least, 0, api.ErrRange},
	}
	for _, c := range cases {
		got, e := tried(func() int64 { return fixed.Sub(c.a, c.b) })
		if got != c.want || e != c.e {
			t.Errorf("Sub(%d, %d): %d, %d", c.a, c.b, got, e)
		}
	}
}

func TestPart(t *testing.T) {
	for _, a := range ints() {
		for _, n := range ints() {
			product := new(big.Int).Mul(big.NewInt(a), big.NewInt(n))
			for _, d := range ints() {
				part := func() int64 { return fixed.Part(a, n, d) }
				if d == 0 {
					checkFail(t, "Part by 0", part, api.ErrZero)
					continue
				}
				check(t, "Part", part, down(product, big.NewInt(d)))
			}
		}
	}
}

func TestPartEdges(t *testing.T) {
	cases := []struct {
		a, n, d, want int64
		e             api.Errno
	}{
		{-1, 1, 2, -1, api.OK},
		{1, 1, 2, 0, api.OK},
		{1, 1, -2, -1, api.OK},
		{-1, -1, 2, 0, api.OK},
		{7, 3, 2, 10, api.OK},
		{-7, 3, 2, -11, api.OK},
		{most, most, most, 0, api.ErrRange},
		{api.MaxLen, most, most, api.MaxLen, api.OK},
		{most, api.MaxLen, most, api.MaxLen, api.OK},
		{api.MaxLen, 2, 1, 0, api.ErrRange},
		{2*api.MaxLen + 1, 1, 2, api.MaxLen, api.OK},
		{-2*api.MaxLen - 1, 1, 2, 0, api.ErrRange},
		{least, 1, -1, 0, api.ErrRange},
		{0, 0, 0, 0, api.ErrZero},
		{most, most, 0, 0, api.ErrZero},
	}
	for _, c := range cases {
		got, e := tried(func() int64 { return fixed.Part(c.a, c.n, c.d) })
		if got != c.want || e != c.e {
			t.Errorf("Part(%d, %d, %d): %d, %d", c.a, c.n, c.d, got, e)
		}
	}
}

func TestScale(t *testing.T) {
	for _, num := range ints() {
		for _, den := range ints() {
			r := ratio.Ratio{N: num, D: den}
			for _, n := range ints() {
				scale := func() int64 { return fixed.Scale(n, r) }
				if !r.Good() {
					checkFail(t, "Scale by what is not valid", scale, api.ErrArg)
					continue
				}
				product := new(big.Int).Mul(big.NewInt(n), big.NewInt(num))
				check(t, "Scale", scale, down(product, big.NewInt(den)))
			}
		}
	}
}

func TestScaleEdges(t *testing.T) {
	cases := []struct {
		n    int64
		r    ratio.Ratio
		want int64
		e    api.Errno
	}{
		{800, ratio.Ratio{N: 3, D: 2}, 1200, api.OK},
		{1, ratio.Ratio{N: 3, D: 2}, 1, api.OK},
		{-1, ratio.Ratio{N: 3, D: 2}, -2, api.OK},
		{1, ratio.Ratio{N: -1, D: 2}, -1, api.OK},
		{most, ratio.Ratio{N: 0, D: 1}, 0, api.OK},
		{2*api.MaxLen + 1, ratio.Ratio{N: 1, D: 2}, api.MaxLen, api.OK},
		{api.MaxLen, ratio.Ratio{N: 2, D: 1}, 0, api.ErrRange},
		{most, ratio.Ratio{N: most, D: 1}, 0, api.ErrRange},
		{0, ratio.Ratio{}, 0, api.ErrArg},
		{most, ratio.Ratio{N: 2, D: 4}, 0, api.ErrArg},
		{1, ratio.Ratio{N: 1, D: -1}, 0, api.ErrArg},
		{1, ratio.Ratio{N: 0, D: 2}, 0, api.ErrArg},
	}
	for _, c := range cases {
		got, e := tried(func() int64 { return fixed.Scale(c.n, c.r) })
		if got != c.want || e != c.e {
			t.Errorf("Scale(%d, %v): %d, %d", c.n, c.r, got, e)
		}
	}
}

func TestPx(t *testing.T) {
	for _, n := range ints() {
		want := new(big.Int).Mul(big.NewInt(n), big.NewInt(64))
		check(t, "Px", func() int64 { return fixed.Px(n) }, want)
	}
	cases := []struct {
		n, want int64
		e       api.Errno
	}{
		{0, 0, api.OK}, {10, 640, api.OK}, {-3, -192, api.OK},
		{1 << 38, api.MaxLen, api.OK}, {-1 << 38, -api.MaxLen, api.OK},
		{1<<38 + 1, 0, api.ErrRange}, {-1<<38 - 1, 0, api.ErrRange},
		// 64 times these wrap to 0 and 64.
		{1 << 58, 0, api.ErrRange}, {1<<58 + 1, 0, api.ErrRange}, {least, 0, api.ErrRange},
	}
	for _, c := range cases {
		if got, e := tried(func() int64 { return fixed.Px(c.n) }); got != c.want || e != c.e {
			t.Errorf("Px(%d): %d, %d", c.n, got, e)
		}
	}
}

// P4.3

func TestPixels(t *testing.T) {
	unit, half, allButOne := big.NewInt(64), big.NewInt(32), big.NewInt(63)
	for _, a := range ints() {
		x := big.NewInt(a)
		floor := down(x, unit)
		ceil := down(new(big.Int).Add(x, allButOne), unit)
		round := down(new(big.Int).Add(x, half), unit)
		if got := fixed.Floor(a); got != floor.Int64() {
			t.Errorf("Floor(%d): %d, not %v", a, got, floor)
		}
		if got := fixed.Ceil(a); got != ceil.Int64() {
			t.Errorf("Ceil(%d): %d, not %v", a, got, ceil)
		}
		if got := fixed.Round(a); got != round.Int64() {
			t.Errorf("Round(%d): %d, not %v", a, got, round)
		}
	}
}

func TestPixelsEdges(t *testing.T) {
	cases := []struct{ a, floor, ceil, round int64 }{
		{0, 0, 0, 0}, {1, 0, 1, 0}, {31, 0, 1, 0}, {32, 0, 1, 1}, {63, 0, 1, 1}, {64, 1, 1, 1}, {65, 1, 2, 1},
		{-1, -1, 0, 0}, {-32, -1, 0, 0}, {-33, -1, 0, -1}, {-64, -1, -1, -1}, {-65, -2, -1, -1},
		{-96, -2, -1, -1}, {-97, -2, -1, -2},
		{most, 1<<57 - 1, 1 << 57, 1 << 57},
		{most - 32, 1<<57 - 1, 1 << 57, 1<<57 - 1},
		{least, -1 << 57, -1 << 57, -1 << 57},
		{least + 1, -1 << 57, -1<<57 + 1, -1 << 57},
	}
	for _, c := range cases {
		floor, ceil, round := fixed.Floor(c.a), fixed.Ceil(c.a), fixed.Round(c.a)
		if floor != c.floor || ceil != c.ceil || round != c.round {
			t.Errorf("%d: %d, %d, %d", c.a, floor, ceil, round)
		}
	}
}
