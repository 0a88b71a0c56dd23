// Package wide is layer 1, 128-bit integers: see shared/doc/01-wide.md.
package wide

import (
	"math"
	"math/bits"
)

// Wide number: Hi times 2^64, and Lo.
type Wide struct {
	Hi int64
	Lo uint64
}

// Of an int.
func Of(n int64) Wide {
	return Wide{Hi: n >> 63, Lo: uint64(n)}
}

// Mul: the product of two ints.
func Mul(a, b int64) Wide {
	hi, lo := bits.Mul64(uint64(a), uint64(b))
	// A negative factor was read as 2^64 more than it is.
	if a < 0 {
		hi -= uint64(b)
	}
	if b < 0 {
		hi -= uint64(a)
	}
	return Wide{Hi: int64(hi), Lo: lo}
}

// Add: the sum; is it a wide number?
func (x Wide) Add(y Wide) (Wide, bool) {
	lo, carry := bits.Add64(x.Lo, y.Lo, 0)
	hi, _ := bits.Add64(uint64(x.Hi), uint64(y.Hi), carry)
	sum := Wide{Hi: int64(hi), Lo: lo}
	// Out of range, the sum of two numbers of one sign has wrapped to the other sign.
	if x.negative() == y.negative() && sum.negative() != x.negative() {
		return Wide{}, false
	}
	return sum, true
}

// Neg: the number with the other sign; is it a wide number?
func (x Wide) Neg() (Wide, bool) {
	if x == (Wide{Hi: math.MinInt64}) {
		return Wide{}, false
	}
	return x.opposite(), true
}

// Cmp: -1 below the other one, 0 the same, 1 above.
func (x Wide) Cmp(y Wide) int {
	switch {
	case x == y:
		return 0
	case x.Hi < y.Hi || x.Hi == y.Hi && x.Lo < y.Lo:
		return -1
	}
	return 1
}

// Int: the number as an int; is it one?
func (x Wide) Int() (int64, bool) {
	n := int64(x.Lo)
	if x != Of(n) {
		return 0, false
	}
	return n, true
}

// Div by an int, rounded down: the quotient, the rest; is there one?
func (x Wide) Div(d int64) (Wide, int64, bool) {
	if d == 0 {
		return Wide{}, 0, false
	}
	by := size(d)
	q, rest := x.size().divide(by)
	if x.negative() == (d < 0) {
		// Only -2^127 by -1 gets here: its quotient is 2^127.
		if q.negative() {
			return Wide{}, 0, false
		}
		return q, signed(rest, d), true
	}
	if rest != 0 {
		// Between two integers, the one farther from zero is the lower one.
		q, rest = q.next(), by-rest
	}
	return q.opposite(), signed(rest, d), true
}

// MulDiv: a times b, divided by c, rounded down; is it an int?
func MulDiv(a, b, c int64) (int64, bool) {
	q, _, ok := Mul(a, b).Div(c)
	if !ok {
		return 0, false
	}
	return q.Int()
}

func (x Wide) negative() bool {
	return x.Hi < 0
}

// opposite negates modulo 2^128, so that -2^127 stays what it is.
func (x Wide) opposite() Wide {
	lo, borrow := bits.Sub64(0, x.Lo, 0)
	hi, _ := bits.Sub64(0, uint64(x.Hi), borrow)
	return Wide{Hi: int64(hi), Lo: lo}
}

// size is the absolute value, to be read as an unsigned number: that of -2^127 is no wide number.
func (x Wide) size() Wide {
	if x.negative() {
		return x.opposite()
	}
	return x
}

// divide reads x as an unsigned number.
func (x Wide) divide(by uint64) (Wide, uint64) {
	hi := uint64(x.Hi)
	lo, rest := bits.Div64(hi%by, x.Lo, by)
	return Wide{Hi: int64(hi / by), Lo: lo}, rest
}

// next adds one modulo 2^128.
func (x Wide) next() Wide {
	lo, carry := bits.Add64(x.Lo, 1, 0)
	return Wide{Hi: x.Hi + int64(carry), Lo: lo}
}

// size of an int; unsigned, because that of -2^63 is no int.
func size(n int64) uint64 {
	if n < 0 {
		return -uint64(n)
	}
	return uint64(n)
}

// signed gives a rest, which is below 2^63, the sign of the divisor.
func signed(rest uint64, d int64) int64 {
	if d < 0 {
		return -int64(rest)
	}
	return int64(rest)
}
