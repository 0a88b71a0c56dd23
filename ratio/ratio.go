// Package ratio is layer 2, exact fractions: see shared/doc/02-ratio.md.
package ratio

import (
	"math"

	"clapboard/api"
	"clapboard/wide"
)

// Ratio of two whole numbers, in lowest terms.
type Ratio struct {
	N, D int64
}

// Of two numbers.
func Of(n, d int64) (Ratio, api.Errno) {
	if d == 0 {
		return Ratio{}, api.ErrZero
	}
	common := divisor(size(n), size(d))
	num, fits := signed(size(n)/common, (n < 0) != (d < 0))
	den, fitsToo := signed(size(d)/common, false)
	if !fits || !fitsToo {
		return Ratio{}, api.ErrRange
	}
	return Ratio{N: num, D: den}, api.OK
}

// Good: may it be?
func (r Ratio) Good() bool {
	return r.D >= 1 && divisor(size(r.N), size(r.D)) == 1
}

// Cmp: -1 below the other one, 0 the same, 1 above.
func (r Ratio) Cmp(s Ratio) int {
	if !r.Good() || !s.Good() {
		return 0
	}
	return wide.Mul(r.N, s.D).Cmp(wide.Mul(s.N, r.D))
}

// Times another one.
func (r Ratio) Times(s Ratio) (Ratio, api.Errno) {
	if !r.Good() || !s.Good() {
		return Ratio{}, api.ErrArg
	}
	// Reduced crosswise first, the product is in lowest terms, so that it is too great only if the ratio is.
	left := int64(divisor(size(r.N), size(s.D)))
	right := int64(divisor(size(s.N), size(r.D)))
	num, fits := wide.Mul(r.N/left, s.N/right).Int()
	den, fitsToo := wide.Mul(r.D/right, s.D/left).Int()
	if !fits || !fitsToo {
		return Ratio{}, api.ErrRange
	}
	return Ratio{N: num, D: den}, api.OK
}

// Down: so many times a number, rounded down.
func (r Ratio) Down(x int64) (int64, api.Errno) {
	if !r.Good() {
		return 0, api.ErrArg
	}
	n, ok := wide.MulDiv(x, r.N, r.D)
	if !ok {
		return 0, api.ErrRange
	}
	return n, api.OK
}

// Half: likewise, rounded to the nearest number, a half upwards.
func (r Ratio) Half(x int64) (int64, api.Errno) {
	if !r.Good() {
		return 0, api.ErrArg
	}
	q, rest, ok := wide.Mul(x, r.N).Div(r.D)
	if ok && rest >= r.D-rest {
		// Still wide: below the lowest int there may be a number that is rounded up to it.
		q, ok = q.Add(wide.Of(1))
	}
	n, fits := q.Int()
	if !ok || !fits {
		return 0, api.ErrRange
	}
	return n, api.OK
}

// divisor: the greatest one that both have.
func divisor(a, b uint64) uint64 {
	for b != 0 {
		a, b = b, a%b
	}
	return a
}

// size of an int; unsigned, because that of -2^63 is no int.
func size(n int64) uint64 {
	if n < 0 {
		return -uint64(n)
	}
	return uint64(n)
}

// signed makes an int of a size up to 2^63; is it one?
func signed(size uint64, negative bool) (int64, bool) {
	if negative {
		// 2^63 wraps to -2^63, which negated is itself.
		return -int64(size), true
	}
	if size > math.MaxInt64 {
		return 0, false
	}
	return int64(size), true
}
