package rect_test

import (
	"math"
	"math/big"
	"testing"

	"clapboard/api"
	"clapboard/rect"
)

const far = api.MaxPx

// ints are about the ends of the range, of twice the range and of int, and ordinary numbers.
func ints() []int {
	return []int{
		math.MinInt, math.MinInt + 1, -2*far - 1, -2 * far, -2*far + 1, -far - 1, -far, -far + 1, -7, -1,
		0, 1, 7, far - 1, far, far + 1, 2*far - 1, 2 * far, 2*far + 1, math.MaxInt - 1, math.MaxInt,
	}
}

// edges are rectangles of those numbers that matter most, many of them not normalized.
func edges() []rect.Rect {
	var all []rect.Rect
	numbers := []int{math.MinInt, -far - 1, -far, -1, 0, 5, far - 1, far, math.MaxInt}
	for _, a := range numbers {
		for _, b := range numbers {
			all = append(all, rect.Rect{a, 0, b, 3}, rect.Rect{-2, a, 5, b}, rect.Rect{a, b, b, a}, rect.Rect{a, a, b, b})
		}
	}
	return all
}

const side = 5

// smalls are all rectangles with numbers from 0 to side, normalized and not.
func smalls() []rect.Rect {
	var all []rect.Rect
	for x0 := range side + 1 {
		for y0 := range side + 1 {
			for x1 := range side + 1 {
				for y1 := range side + 1 {
					all = append(all, rect.Rect{x0, y0, x1, y1})
				}
			}
		}
	}
	return all
}

// mask is the set of the pixels of a small rectangle, a bit each.
func mask(r rect.Rect) uint64 {
	var set uint64
	for y := r.Y0; y < r.Y1; y++ {
		for x := r.X0; x < r.X1; x++ {
			set |= 1 << (y*side + x)
		}
	}
	return set
}

// least rectangle around the pixels of a set.
func least(set uint64) rect.Rect {
	if set == 0 {
		return rect.Rect{}
	}
	hull := rect.Rect{side, side, 0, 0}
	for i := range side * side {
		if set>>i&1 == 1 {
			x, y := i%side, i/side
			hull = rect.Rect{min(hull.X0, x), min(hull.Y0, y), max(hull.X1, x+1), max(hull.Y1, y+1)}
		}
	}
	return hull
}

// limited as the document says it, of an exact number.
func limited(n *big.Int) int {
	switch end := big.NewInt(far); {
	case n.CmpAbs(end) <= 0:
		return int(n.Int64())
	case n.Sign() < 0:
		return -far
	}
	return far
}

// right normalizes exact numbers, as the document says it.
func right(x0, y0, x1, y1 *big.Int) rect.Rect {
	r := rect.Rect{limited(x0), limited(y0), limited(x1), limited(y1)}
	if !(r.X0 < r.X1) || !(r.Y0 < r.Y1) {
		return rect.Rect{}
	}
	return r
}

func exact(n int) *big.Int {
	return big.NewInt(int64(n))
}

func plus(a, b int) *big.Int {
	return new(big.Int).Add(exact(a), exact(b))
}

func minus(a, b int) *big.Int {
	return new(big.Int).Sub(exact(a), exact(b))
}

func normal(r rect.Rect) rect.Rect {
	return right(exact(r.X0), exact(r.Y0), exact(r.X1), exact(r.Y1))
}

// P6.1

func TestNewAndRight(t *testing.T) {
	for _, x0 := range ints() {
		for _, y0 := range ints() {
			for _, x1 := range ints() {
				for _, y1 := range ints() {
					raw := rect.Rect{x0, y0, x1, y1}
					want := normal(raw)
					if got := rect.New(x0, y0, x1, y1); got != want {
						t.Fatalf("New of %v: %v, not %v", raw, got, want)
					}
					if got := raw.Right(); got != want {
						t.Fatalf("%v.Right(): %v, not %v", raw, got, want)
					}
				}
			}
		}
	}
}

func TestNewEdges(t *testing.T) {
	cases := []struct{ raw, want rect.Rect }{
		{rect.Rect{1, 2, 3, 4}, rect.Rect{1, 2, 3, 4}},
		{rect.Rect{-3, -4, -1, -2}, rect.Rect{-3, -4, -1, -2}},
		{rect.Rect{5, 0, 5, 9}, rect.Rect{}},
		{rect.Rect{0, 5, 9, 5}, rect.Rect{}},
		{rect.Rect{6, 0, 5, 9}, rect.Rect{}},
		{rect.Rect{0, 9, 9, 0}, rect.Rect{}},
		{rect.Rect{-far, -far, far, far}, rect.Rect{-far, -far, far, far}},
		{rect.Rect{math.MinInt, math.MinInt, math.MaxInt, math.MaxInt}, rect.Rect{-far, -far, far, far}},
		// Limited to the range, these have no pixel any more.
		{rect.Rect{far, 0, far + 1, 9}, rect.Rect{}},
		{rect.Rect{0, far + 1, 9, math.MaxInt}, rect.Rect{}},
		{rect.Rect{math.MinInt, 0, -far, 9}, rect.Rect{}},
		{rect.Rect{far - 1, 0, far + 1, 9}, rect.Rect{far - 1, 0, far, 9}},
	}
	for _, c := range cases {
		if got := rect.New(c.raw.X0, c.raw.Y0, c.raw.X1, c.raw.Y1); got != c.want {
			t.Errorf("New of %v: %v", c.raw, got)
		}
	}
}

func TestSizes(t *testing.T) {
	for _, r := range append(edges(), smalls()...) {
		want := normal(r)
		w, h := minus(want.X1, want.X0), minus(want.Y1, want.Y0)
		area := new(big.Int).Mul(w, h)
		if got := r.W(); exact(got).Cmp(w) != 0 {
			t.Errorf("%v.W(): %d", r, got)
		}
		if got := r.H(); exact(got).Cmp(h) != 0 {
			t.Errorf("%v.H(): %d", r, got)
		}
		if got := r.Area(); big.NewInt(got).Cmp(area) != 0 {
			t.Errorf("%v.Area(): %d", r, got)
		}
		if got := r.Empty(); got != (area.Sign() == 0) {
			t.Errorf("%v.Empty(): %v", r, got)
		}
	}
	all := rect.Rect{math.MinInt, math.MinInt, math.MaxInt, math.MaxInt}
	if all.W() != 1<<31 || all.H() != 1<<31 || all.Area() != 1<<62 || all.Empty() {
		t.Errorf("all pixels: %d, %d, %d, %v", all.W(), all.H(), all.Area(), all.Empty())
	}
}

func TestHas(t *testing.T) {
	for _, r := range smalls() {
		set := mask(r)
		for y := -1; y <= side; y++ {
			for x := -1; x <= side; x++ {
				inside := x >= 0 && y >= 0 && x < side && y < side
				want := inside && set>>(y*side+x)&1 == 1
				if got := r.Has(x, y); got != want {
					t.Errorf("%v.Has(%d, %d): %v", r, x, y, got)
				}
			}
		}
	}
	for _, r := range edges() {
		want := normal(r)
		for _, x := range ints() {
			for _, y := range ints() {
				has := want.X0 <= x && x < want.X1 && want.Y0 <= y && y < want.Y1
				if got := r.Has(x, y); got != has {
					t.Errorf("%v.Has(%d, %d): %v", r, x, y, got)
				}
			}
		}
	}
}

func TestHasAtTheEnds(t *testing.T) {
	all := rect.New(-far, -far, far, far)
	if !all.Has(-far, -far) || !all.Has(far-1, far-1) || !all.Has(0, 0) {
		t.Error("a pixel of all is missing")
	}
	if all.Has(far, 0) || all.Has(0, far) || all.Has(-far-1, 0) || all.Has(0, -far-1) || all.Has(math.MaxInt, math.MinInt) {
		t.Error("a pixel beyond all")
	}
	// These numbers are beyond the range, and so are their pixels.
	if (rect.Rect{0, 0, math.MaxInt, 9}).Has(far, 0) || (rect.Rect{math.MinInt, 0, 1, 9}).Has(-far-1, 0) {
		t.Error("not normalized")
	}
}

func TestHolds(t *testing.T) {
	for _, r := range smalls() {
		for _, s := range smalls() {
			want := mask(s)&^mask(r) == 0
			if got := r.Holds(s); got != want {
				t.Fatalf("%v.Holds(%v): %v", r, s, got)
			}
		}
	}
}

func TestHoldsEdges(t *testing.T) {
	cases := []struct {
		r, s rect.Rect
		want bool
	}{
		{rect.Rect{}, rect.Rect{}, true},
		{rect.Rect{0, 0, 1, 1}, rect.Rect{}, true},
		{rect.Rect{}, rect.Rect{0, 0, 1, 1}, false},
		{rect.Rect{}, rect.Rect{-1, -1, 1, 1}, false},
		{rect.Rect{2, 2, 4, 4}, rect.Rect{9, 9, 9, 10}, true},
		{rect.Rect{2, 2, 1, 1}, rect.Rect{7, 7, 3, 3}, true},
		{rect.Rect{2, 2, 4, 4}, rect.Rect{2, 2, 4, 4}, true},
		{rect.Rect{-far, -far, far, far}, rect.Rect{math.MinInt, math.MinInt, math.MaxInt, math.MaxInt}, true},
		{rect.Rect{0, 0, far, 1}, rect.Rect{0, 0, math.MaxInt, 1}, true},
		{rect.Rect{0, 0, math.MaxInt, 1}, rect.Rect{far, 0, far + 5, 1}, true},
		{rect.Rect{0, 0, far - 1, 1}, rect.Rect{0, 0, far, 1}, false},
	}
	for _, c := range cases {
		if got := c.r.Holds(c.s); got != c.want {
			t.Errorf("%v.Holds(%v): %v", c.r, c.s, got)
		}
	}
}

// P6.2

func TestAnd(t *testing.T) {
	for _, r := range smalls() {
		for _, s := range smalls() {
			if got, want := r.And(s), least(mask(r)&mask(s)); got != want {
				t.Fatalf("%v.And(%v): %v, not %v", r, s, got, want)
			}
		}
	}
}

func TestAndEdges(t *testing.T) {
	cases := []struct{ r, s, want rect.Rect }{
		{rect.Rect{0, 0, 4, 4}, rect.Rect{2, 1, 9, 3}, rect.Rect{2, 1, 4, 3}},
		{rect.Rect{0, 0, 4, 4}, rect.Rect{4, 0, 8, 4}, rect.Rect{}},
		{rect.Rect{0, 0, 4, 4}, rect.Rect{0, 4, 4, 8}, rect.Rect{}},
		{rect.Rect{-4, -4, 4, 4}, rect.Rect{}, rect.Rect{}},
		{rect.Rect{-9, -9, -5, -5}, rect.Rect{}, rect.Rect{}},
		{rect.Rect{-9, -9, -5, -5}, rect.Rect{-7, -20, 7, -6}, rect.Rect{-7, -9, -5, -6}},
		{rect.Rect{5, 5, -5, -5}, rect.Rect{-9, -9, 9, 9}, rect.Rect{}},
		{rect.Rect{math.MinInt, 0, math.MaxInt, 9}, rect.Rect{3, math.MinInt, 7, math.MaxInt}, rect.Rect{3, 0, 7, 9}},
		{rect.Rect{0, 0, math.MaxInt, 9}, rect.Rect{0, 0, math.MaxInt, 9}, rect.Rect{0, 0, far, 9}},
		{rect.Rect{far, 0, math.MaxInt, 9}, rect.Rect{far, 0, math.MaxInt, 9}, rect.Rect{}},
	}
	for _, c := range cases {
		if got := c.r.And(c.s); got != c.want {
			t.Errorf("%v.And(%v): %v", c.r, c.s, got)
		}
		if got := c.s.And(c.r); got != c.want {
			t.Errorf("%v.And(%v): %v", c.s, c.r, got)
		}
	}
}

func TestHull(t *testing.T) {
	for _, r := range smalls() {
		for _, s := range smalls() {
			if got, want := r.Hull(s), least(mask(r)|mask(s)); got != want {
				t.Fatalf("%v.Hull(%v): %v, not %v", r, s, got, want)
			}
		}
	}
}

func TestHullEdges(t *testing.T) {
	cases := []struct{ r, s, want rect.Rect }{
		{rect.Rect{0, 0, 1, 1}, rect.Rect{5, 6, 7, 8}, rect.Rect{0, 0, 7, 8}},
		{rect.Rect{}, rect.Rect{}, rect.Rect{}},
		{rect.Rect{5, 6, 7, 8}, rect.Rect{}, rect.Rect{5, 6, 7, 8}},
		{rect.Rect{5, 6, 7, 8}, rect.Rect{-9, 0, -9, 5}, rect.Rect{5, 6, 7, 8}},
		{rect.Rect{-7, -8, -5, -6}, rect.Rect{3, 3, 2, 2}, rect.Rect{-7, -8, -5, -6}},
		{rect.Rect{0, 0, math.MaxInt, 1}, rect.Rect{2, 2, 2, 2}, rect.Rect{0, 0, far, 1}},
		{rect.Rect{0, 0, 1, 1}, rect.Rect{far, 0, far + 1, 1}, rect.Rect{0, 0, 1, 1}},
		{rect.Rect{math.MinInt, 0, 0, 1}, rect.Rect{0, 0, 1, math.MaxInt}, rect.Rect{-far, 0, 1, far}},
	}
	for _, c := range cases {
		if got := c.r.Hull(c.s); got != c.want {
			t.Errorf("%v.Hull(%v): %v", c.r, c.s, got)
		}
		if got := c.s.Hull(c.r); got != c.want {
			t.Errorf("%v.Hull(%v): %v", c.s, c.r, got)
		}
	}
}

// Numbers beyond the range, in either of the two.
func TestBothOfEdges(t *testing.T) {
	for _, r := range edges() {
		for _, s := range edges() {
			a, b := normal(r), normal(s)
			and := rect.Rect{max(a.X0, b.X0), max(a.Y0, b.Y0), min(a.X1, b.X1), min(a.Y1, b.Y1)}
			if got := r.And(s); got != normal(and) {
				t.Errorf("%v.And(%v): %v", r, s, got)
			}
			hull := rect.Rect{min(a.X0, b.X0), min(a.Y0, b.Y0), max(a.X1, b.X1), max(a.Y1, b.Y1)}
			if a == (rect.Rect{}) {
				hull = b
			}
			if b == (rect.Rect{}) {
				hull = a
			}
			if got := r.Hull(s); got != hull {
				t.Errorf("%v.Hull(%v): %v", r, s, got)
			}
			if got := r.Holds(s); got != (hull == a) {
				t.Errorf("%v.Holds(%v): %v", r, s, got)
			}
		}
	}
}

// P6.3

func TestMove(t *testing.T) {
	for _, r := range edges() {
		from := normal(r)
		for _, dx := range ints() {
			for _, dy := range ints() {
				want := right(plus(from.X0, dx), plus(from.Y0, dy), plus(from.X1, dx), plus(from.Y1, dy))
				if got := r.Move(dx, dy); got != want {
					t.Fatalf("%v.Move(%d, %d): %v, not %v", r, dx, dy, got, want)
				}
			}
		}
	}
}

func TestMoveEdges(t *testing.T) {
	cases := []struct {
		r      rect.Rect
		dx, dy int
		want   rect.Rect
	}{
		{rect.Rect{1, 2, 3, 4}, 10, -20, rect.Rect{11, -18, 13, -16}},
		{rect.Rect{1, 2, 3, 4}, 0, 0, rect.Rect{1, 2, 3, 4}},
		{rect.Rect{}, 5, 5, rect.Rect{}},
		{rect.Rect{4, 4, 3, 9}, 5, 5, rect.Rect{}},
		{rect.Rect{0, 0, 10, 10}, far - 5, 0, rect.Rect{far - 5, 0, far, 10}},
		{rect.Rect{0, 0, 10, 10}, far, 0, rect.Rect{}},
		{rect.Rect{0, 0, 10, 10}, math.MaxInt, math.MinInt, rect.Rect{}},
		{rect.Rect{-far, -far, far, far}, 2*far - 1, 0, rect.Rect{far - 1, -far, far, far}},
		{rect.Rect{-far, -far, far, far}, 0, 1 - 2*far, rect.Rect{-far, -far, far, 1 - far}},
		{rect.Rect{-far, -far, far, far}, 2 * far, 0, rect.Rect{}},
		{rect.Rect{-far, -far, far, far}, math.MinInt, 0, rect.Rect{}},
		// It is normalized before it is moved as well, so that what was beyond the range stays cut off.
		{rect.Rect{0, 0, math.MaxInt, 9}, -far, 1, rect.Rect{-far, 1, 0, 10}},
		{rect.Rect{far, 0, far + 9, 9}, -50, 0, rect.Rect{}},
	}
	for _, c := range cases {
		if got := c.r.Move(c.dx, c.dy); got != c.want {
			t.Errorf("%v.Move(%d, %d): %v, not %v", c.r, c.dx, c.dy, got, c.want)
		}
	}
}

func TestInset(t *testing.T) {
	ends := []int{math.MinInt, -2*far - 1, -far, -1, 0, 2, far, 2*far - 1, 2 * far, math.MaxInt}
	for _, r := range edges() {
		from := normal(r)
		for _, a := range ends {
			for _, b := range ends {
				for _, in := range [][4]int{{a, b, 0, 0}, {0, a, b, 0}, {0, 0, a, b}, {b, 0, 0, a}, {a, 0, b, 0}, {a, b, b, a}} {
					want := right(plus(from.X0, in[3]), plus(from.Y0, in[0]), minus(from.X1, in[1]), minus(from.Y1, in[2]))
					if from == (rect.Rect{}) {
						want = from
					}
					if got := r.Inset(in[0], in[1], in[2], in[3]); got != want {
						t.Fatalf("%v.Inset%v: %v, not %v", r, in, got, want)
					}
				}
			}
		}
	}
}

func TestInsetEdges(t *testing.T) {
	all := rect.Rect{-far, -far, far, far}
	cases := []struct {
		r                        rect.Rect
		top, right, bottom, left int
		want                     rect.Rect
	}{
		{rect.Rect{0, 0, 20, 20}, 1, 2, 3, 4, rect.Rect{4, 1, 18, 17}},
		{rect.Rect{0, 0, 20, 20}, -1, -2, -3, -4, rect.Rect{-4, -1, 22, 23}},
		{rect.Rect{0, 0, 20, 20}, 0, 0, 0, 0, rect.Rect{0, 0, 20, 20}},
		{rect.Rect{0, 0, 20, 20}, 0, 10, 0, 10, rect.Rect{}},
		{rect.Rect{0, 0, 20, 20}, 10, 0, 10, 0, rect.Rect{}},
		{rect.Rect{0, 0, 20, 20}, 0, 10, 0, 9, rect.Rect{9, 0, 10, 20}},
		{rect.Rect{0, 0, 20, 20}, 0, 30, 0, -30, rect.Rect{-30, 0, -10, 20}},
		// An empty one stays empty, even where its sides are moved outwards.
		{rect.Rect{}, -1, -1, -1, -1, rect.Rect{}},
		{rect.Rect{5, 5, 5, 9}, -1, -1, -1, -1, rect.Rect{}},
		{rect.Rect{far, 0, far + 9, 9}, -1, -1, -1, -1, rect.Rect{}},
		{rect.Rect{0, 0, 1, 1}, math.MinInt, math.MinInt, math.MinInt, math.MinInt, all},
		{rect.Rect{0, 0, 1, 1}, math.MaxInt, math.MaxInt, math.MaxInt, math.MaxInt, rect.Rect{}},
		{all, 2*far - 1, 0, 0, 2*far - 1, rect.Rect{far - 1, far - 1, far, far}},
		{all, 0, 2 * far, 0, 0, rect.Rect{}},
		{all, 0, math.MaxInt, 0, math.MinInt, rect.Rect{}},
		{rect.Rect{0, 0, math.MaxInt, 9}, 0, 5, 0, 0, rect.Rect{0, 0, far - 5, 9}},
	}
	for _, c := range cases {
		if got := c.r.Inset(c.top, c.right, c.bottom, c.left); got != c.want {
			t.Errorf("%v.Inset(%d, %d, %d, %d): %v, not %v", c.r, c.top, c.right, c.bottom, c.left, got, c.want)
		}
	}
}
