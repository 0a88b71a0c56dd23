package wide_test

import (
	"math"
	"math/big"
	"testing"

	"clapboard/wide"
)

const (
	least = math.MinInt64
	most  = math.MaxInt64
)

var (
	lowest  = wide.Wide{Hi: least}
	highest = wide.Wide{Hi: most, Lo: math.MaxUint64}
)

// ints are the edges of int64, their neighbours, and ordinary numbers.
func ints() []int64 {
	return []int64{
		least, least + 1, least + 2, least / 2, -1<<32 - 1, -1 << 32, -1<<32 + 1, -1000003, -64, -7, -3, -2, -1,
		0, 1, 2, 3, 7, 10, 64, 1000003, 1<<32 - 1, 1 << 32, 1<<32 + 1, 1<<44 - 1, 1 << 62, most / 2, most - 1, most,
	}
}

// wides have every combination of edges in both halves.
func wides() []wide.Wide {
	his := []int64{least, least + 1, -1 << 32, -5, -2, -1, 0, 1, 2, 5, 1 << 62, most - 1, most}
	los := []uint64{0, 1, 2, 7, 1 << 32, 1<<63 - 1, 1 << 63, 1<<63 + 1, math.MaxUint64 - 1, math.MaxUint64}
	var all []wide.Wide
	for _, hi := range his {
		for _, lo := range los {
			all = append(all, wide.Wide{Hi: hi, Lo: lo})
		}
	}
	return all
}

func exact(x wide.Wide) *big.Int {
	n := new(big.Int).Lsh(big.NewInt(x.Hi), 64)
	return n.Add(n, new(big.Int).SetUint64(x.Lo))
}

func power(n uint) *big.Int {
	return new(big.Int).Lsh(big.NewInt(1), n)
}

func isWide(n *big.Int) bool {
	top := power(127)
	return n.Cmp(top) < 0 && n.Cmp(new(big.Int).Neg(top)) >= 0
}

// down divides, rounding toward negative infinity.
func down(x, d *big.Int) (q, rest *big.Int) {
	q, rest = new(big.Int).QuoRem(x, d, new(big.Int))
	if rest.Sign() != 0 && rest.Sign() != d.Sign() {
		q.Sub(q, big.NewInt(1))
		rest.Add(rest, d)
	}
	return q, rest
}

// same holds an answer against the exact number, or against nothing if that is not a wide number.
func same(got wide.Wide, ok bool, want *big.Int) bool {
	if !isWide(want) {
		return !ok && got == wide.Wide{}
	}
	return ok && exact(got).Cmp(want) == 0
}

// P1.1

func TestOf(t *testing.T) {
	for _, n := range ints() {
		if got := wide.Of(n); exact(got).Cmp(big.NewInt(n)) != 0 {
			t.Errorf("Of(%d): %v", n, got)
		}
	}
	if got := wide.Of(-1); got != (wide.Wide{Hi: -1, Lo: math.MaxUint64}) {
		t.Errorf("Of(-1): %v", got)
	}
}

func TestMul(t *testing.T) {
	for _, a := range ints() {
		for _, b := range ints() {
			want := new(big.Int).Mul(big.NewInt(a), big.NewInt(b))
			if got := wide.Mul(a, b); exact(got).Cmp(want) != 0 {
				t.Errorf("Mul(%d, %d): %v, not %v", a, b, got, want)
			}
		}
	}
	if got := wide.Mul(least, least); got != (wide.Wide{Hi: 1 << 62}) {
		t.Errorf("Mul of the least: %v", got)
	}
}

func TestAdd(t *testing.T) {
	for _, x := range wides() {
		for _, y := range wides() {
			want := new(big.Int).Add(exact(x), exact(y))
			if got, ok := x.Add(y); !same(got, ok, want) {
				t.Errorf("%v + %v: %v, %v, not %v", x, y, got, ok, want)
			}
		}
	}
}

func TestAddAtTheEdges(t *testing.T) {
	if got, ok := highest.Add(wide.Of(1)); ok || got != (wide.Wide{}) {
		t.Errorf("above the highest: %v, %v", got, ok)
	}
	if got, ok := lowest.Add(wide.Of(-1)); ok || got != (wide.Wide{}) {
		t.Errorf("below the lowest: %v, %v", got, ok)
	}
	if got, ok := lowest.Add(highest); !ok || got != wide.Of(-1) {
		t.Errorf("lowest and highest: %v, %v", got, ok)
	}
	carried := wide.Wide{Hi: 1}
	if got, ok := (wide.Wide{Lo: math.MaxUint64}).Add(wide.Of(1)); !ok || got != carried {
		t.Errorf("carry: %v, %v", got, ok)
	}
}

func TestNeg(t *testing.T) {
	for _, x := range wides() {
		want := new(big.Int).Neg(exact(x))
		if got, ok := x.Neg(); !same(got, ok, want) {
			t.Errorf("-%v: %v, %v, not %v", x, got, ok, want)
		}
	}
	if got, ok := lowest.Neg(); ok || got != (wide.Wide{}) {
		t.Errorf("of the lowest: %v, %v", got, ok)
	}
	if got, ok := wide.Of(least).Neg(); !ok || got != (wide.Wide{Lo: 1 << 63}) {
		t.Errorf("of the least int: %v, %v", got, ok)
	}
}

func TestCmp(t *testing.T) {
	for _, x := range wides() {
		for _, y := range wides() {
			if got, want := x.Cmp(y), exact(x).Cmp(exact(y)); got != want {
				t.Errorf("%v and %v: %d, not %d", x, y, got, want)
			}
		}
	}
	if wide.Of(-1).Cmp(wide.Of(0)) != -1 || wide.Of(0).Cmp(wide.Of(-1)) != 1 || wide.Of(5).Cmp(wide.Of(5)) != 0 {
		t.Error("ordinary numbers")
	}
}

func TestInt(t *testing.T) {
	for _, x := range wides() {
		want := exact(x)
		got, ok := x.Int()
		if ok != want.IsInt64() || ok && got != want.Int64() || !ok && got != 0 {
			t.Errorf("%v: %d, %v", x, got, ok)
		}
	}
	for _, n := range ints() {
		if got, ok := wide.Of(n).Int(); !ok || got != n {
			t.Errorf("Int of Of(%d): %d, %v", n, got, ok)
		}
	}
	for _, x := range []wide.Wide{{Lo: 1 << 63}, {Hi: -1, Lo: 1<<63 - 1}, {Hi: 1, Lo: 5}, lowest, highest} {
		if got, ok := x.Int(); ok || got != 0 {
			t.Errorf("%v: %d, %v", x, got, ok)
		}
	}
}

// P1.2

func TestDiv(t *testing.T) {
	for _, x := range wides() {
		for _, d := range ints() {
			if d == 0 {
				continue
			}
			want, wantRest := down(exact(x), big.NewInt(d))
			if !isWide(want) {
				wantRest = new(big.Int)
			}
			q, rest, ok := x.Div(d)
			if !same(q, ok, want) || rest != wantRest.Int64() {
				t.Errorf("%v / %d: %v, %d, %v, not %v, %v", x, d, q, rest, ok, want, wantRest)
			}
		}
	}
}

func TestDivBySmall(t *testing.T) {
	cases := []struct{ x, d, q, rest int64 }{
		{7, 2, 3, 1}, {-7, 2, -4, 1}, {7, -2, -4, -1}, {-7, -2, 3, -1},
		{6, 2, 3, 0}, {-6, 2, -3, 0}, {6, -2, -3, 0}, {-6, -2, 3, 0},
		{0, 5, 0, 0}, {0, -5, 0, 0}, {1, most, 0, 1}, {-1, most, -1, most - 1},
		{1, least, -1, least + 1}, {-1, least, 0, -1}, {least, least, 1, 0},
	}
	for _, c := range cases {
		q, rest, ok := wide.Of(c.x).Div(c.d)
		if !ok || q != wide.Of(c.q) || rest != c.rest {
			t.Errorf("%d / %d: %v, %d, %v", c.x, c.d, q, rest, ok)
		}
	}
}

func TestDivWithoutAQuotient(t *testing.T) {
	for _, x := range wides() {
		if q, rest, ok := x.Div(0); ok || rest != 0 || q != (wide.Wide{}) {
			t.Errorf("%v / 0: %v, %d, %v", x, q, rest, ok)
		}
	}
	if q, rest, ok := lowest.Div(-1); ok || rest != 0 || q != (wide.Wide{}) {
		t.Errorf("lowest / -1: %v, %d, %v", q, rest, ok)
	}
	if q, rest, ok := lowest.Div(1); !ok || rest != 0 || q != lowest {
		t.Errorf("lowest / 1: %v, %d, %v", q, rest, ok)
	}
	if q, rest, ok := highest.Div(-1); !ok || rest != 0 || q != (wide.Wide{Hi: least, Lo: 1}) {
		t.Errorf("highest / -1: %v, %d, %v", q, rest, ok)
	}
}

// P1.3

func TestMulDiv(t *testing.T) {
	for _, a := range ints() {
		for _, b := range ints() {
			product := new(big.Int).Mul(big.NewInt(a), big.NewInt(b))
			for _, c := range ints() {
				if c == 0 {
					continue
				}
				want, _ := down(product, big.NewInt(c))
				got, ok := wide.MulDiv(a, b, c)
				if ok != want.IsInt64() || ok && got != want.Int64() || !ok && got != 0 {
					t.Errorf("%d * %d / %d: %d, %v, not %v", a, b, c, got, ok, want)
				}
			}
		}
	}
}

func TestMulDivEdges(t *testing.T) {
	if got, ok := wide.MulDiv(5, 6, 0); ok || got != 0 {
		t.Errorf("by 0: %d, %v", got, ok)
	}
	if got, ok := wide.MulDiv(0, 0, 0); ok || got != 0 {
		t.Errorf("0 by 0: %d, %v", got, ok)
	}
	if got, ok := wide.MulDiv(1<<62, 6, 2); ok || got != 0 {
		t.Errorf("too great: %d, %v", got, ok)
	}
	if got, ok := wide.MulDiv(1<<62, 6, 12); !ok || got != 1<<61 {
		t.Errorf("great product: %d, %v", got, ok)
	}
	if got, ok := wide.MulDiv(least, 1, -1); ok || got != 0 {
		t.Errorf("one above the greatest int: %d, %v", got, ok)
	}
	if got, ok := wide.MulDiv(-7, 1, 2); !ok || got != -4 {
		t.Errorf("rounded down: %d, %v", got, ok)
	}
}
