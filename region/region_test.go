package region_test

import (
	"math"
	"math/big"
	"math/rand"
	"slices"
	"testing"

	"clapboard/api"
	"clapboard/rect"
	"clapboard/region"
)

const (
	far  = api.MaxPx
	side = 8
)

// box is a rectangle that need not be normalized.
func box(x0, y0, x1, y1 int) rect.Rect {
	return rect.Rect{X0: x0, Y0: y0, X1: x1, Y1: y1}
}

// grid is a set of pixels from 0 to side - 1, by rows.
type grid [side][side]bool

// pixels that a rectangle with small numbers has.
func pixels(l ...rect.Rect) grid {
	var g grid
	for _, r := range l {
		for y := max(r.Y0, 0); y < min(r.Y1, side); y++ {
			for x := max(r.X0, 0); x < min(r.X1, side); x++ {
				g[y][x] = true
			}
		}
	}
	return g
}

// both grids, pixel by pixel.
func both(a, b grid, keep func(inA, inB bool) bool) grid {
	var g grid
	for y := range side {
		for x := range side {
			g[y][x] = keep(a[y][x], b[y][x])
		}
	}
	return g
}

func or(inA, inB bool) bool    { return inA || inB }
func and(inA, inB bool) bool   { return inA && inB }
func minus(inA, inB bool) bool { return inA && !inB }

// runs of a row, as pairs.
func runs(row [side]bool) [][2]int {
	var l [][2]int
	for x := range side {
		switch {
		case !row[x]:
		case x > 0 && row[x-1]:
			l[len(l)-1][1] = x + 1
		default:
			l = append(l, [2]int{x, x + 1})
		}
	}
	return l
}

// rects of a grid, as the document says them: maximal bands from top to bottom, maximal runs from left to right.
func (g grid) rects() []rect.Rect {
	var l []rect.Rect
	for y := 0; y < side; {
		end := y + 1
		for end < side && g[end] == g[y] {
			end++
		}
		for _, run := range runs(g[y]) {
			l = append(l, box(run[0], y, run[1], end))
		}
		y = end
	}
	return l
}

func (g grid) area() int64 {
	var n int64
	for y := range side {
		for x := range side {
			if g[y][x] {
				n++
			}
		}
	}
	return n
}

func (g grid) hull() rect.Rect {
	hull := box(side, side, 0, 0)
	for y := range side {
		for x := range side {
			if g[y][x] {
				hull = box(min(hull.X0, x), min(hull.Y0, y), max(hull.X1, x+1), max(hull.Y1, y+1))
			}
		}
	}
	if hull.X1 == 0 {
		return rect.Rect{}
	}
	return hull
}

// region of a grid, pixel by pixel.
func (g grid) region() region.Region {
	var l []rect.Rect
	for y := range side {
		for x := range side {
			if g[y][x] {
				l = append(l, box(x, y, x+1, y+1))
			}
		}
	}
	return region.Of(l...)
}

// is reports whether the region has the pixels of the grid and no others, by its rectangles.
func is(a region.Region, g grid) bool {
	return slices.Equal(a.Rects(), g.rects())
}

// randomGrid of pixels, with as many of them as one in so many.
func randomGrid(r *rand.Rand) grid {
	var g grid
	most := 1 + r.Intn(5)
	for y := range side {
		for x := range side {
			g[y][x] = r.Intn(most) == 0
		}
		if y > 0 && r.Intn(2) == 0 {
			g[y] = g[y-1]
		}
	}
	return g
}

// randomRect with small numbers, not normalized now and then.
func randomRect(r *rand.Rand) rect.Rect {
	at := func() int { return r.Intn(side + 1) }
	return box(at(), at(), at(), at())
}

// thirdGrids are all sets of pixels of a grid of 3 by 3.
func thirdGrids() []grid {
	var all []grid
	for set := range 1 << 9 {
		var g grid
		for i := range 9 {
			g[i/3][i%3] = set>>i&1 == 1
		}
		all = append(all, g)
	}
	return all
}

// P7.1

func TestOfNone(t *testing.T) {
	empty := rect.Rect{}
	for _, l := range [][]rect.Rect{
		nil, {}, {empty}, {empty, empty, empty}, {box(5, 0, 5, 9)}, {box(4, 4, 3, 9), box(0, 7, 9, 7)},
		// Normalized, these have no pixel any more.
		{box(far, 0, far+1, 9)}, {box(math.MinInt, 0, -far, 9)}, {box(0, far+1, 9, math.MaxInt)},
	} {
		a := region.Of(l...)
		if !a.Same(region.Region{}) || !(region.Region{}).Same(a) || len(a.Rects()) != 0 || a.Area() != 0 || a.Hull() != empty {
			t.Errorf("Of %v: %v", l, a.Rects())
		}
	}
}

func TestOfOne(t *testing.T) {
	cases := []struct{ raw, want rect.Rect }{
		{box(1, 2, 3, 4), box(1, 2, 3, 4)},
		{box(-3, -4, -1, -2), box(-3, -4, -1, -2)},
		{box(-far, -far, far, far), box(-far, -far, far, far)},
		{box(math.MinInt, math.MinInt, math.MaxInt, math.MaxInt), box(-far, -far, far, far)},
		{box(far-1, 0, far+7, 9), box(far-1, 0, far, 9)},
		{box(0, -far-7, 9, 1-far), box(0, -far, 9, 1-far)},
	}
	for _, c := range cases {
		if got := region.Of(c.raw).Rects(); !slices.Equal(got, []rect.Rect{c.want}) {
			t.Errorf("Of %v: %v", c.raw, got)
		}
	}
}

func TestOfTwo(t *testing.T) {
	var l []rect.Rect
	for i := range 5 * 5 * 5 * 5 {
		l = append(l, box(i%5, i/5%5, i/25%5, i/125))
	}
	for _, r := range l {
		for _, s := range l {
			if got := region.Of(r, s); !is(got, pixels(r, s)) {
				t.Fatalf("Of %v and %v: %v", r, s, got.Rects())
			}
		}
	}
}

func TestOfMany(t *testing.T) {
	r := rand.New(rand.NewSource(1))
	for range 20000 {
		l := make([]rect.Rect, r.Intn(14))
		for i := range l {
			l[i] = randomRect(r)
		}
		if got := region.Of(l...); !is(got, pixels(l...)) {
			t.Fatalf("Of %v: %v", l, got.Rects())
		}
	}
}

// Rectangles whose corners, sides or rows touch.
func TestOfBands(t *testing.T) {
	cases := []struct{ l, want []rect.Rect }{
		{[]rect.Rect{box(0, 0, 4, 4), box(2, 2, 6, 6)}, []rect.Rect{box(0, 0, 4, 2), box(0, 2, 6, 4), box(2, 4, 6, 6)}},
		// Side by side, and one below the other, two are one.
		{[]rect.Rect{box(0, 0, 2, 2), box(2, 0, 4, 2)}, []rect.Rect{box(0, 0, 4, 2)}},
		{[]rect.Rect{box(0, 0, 2, 2), box(0, 2, 2, 4)}, []rect.Rect{box(0, 0, 2, 4)}},
		// Corners that touch join nothing.
		{[]rect.Rect{box(2, 2, 4, 4), box(0, 0, 2, 2)}, []rect.Rect{box(0, 0, 2, 2), box(2, 2, 4, 4)}},
		// Rows between them without a pixel keep bands apart.
		{[]rect.Rect{box(0, 5, 2, 6), box(0, 0, 2, 4)}, []rect.Rect{box(0, 0, 2, 4), box(0, 5, 2, 6)}},
		// A band goes from side to side: what is left of it cuts what is right of it.
		{[]rect.Rect{box(0, 0, 1, 9), box(5, 3, 6, 6)}, []rect.Rect{box(0, 0, 1, 3), box(0, 3, 1, 6), box(5, 3, 6, 6), box(0, 6, 1, 9)}},
		// One within another one, and one twice.
		{[]rect.Rect{box(2, 2, 3, 3), box(0, 0, 9, 9), box(2, 2, 3, 3)}, []rect.Rect{box(0, 0, 9, 9)}},
		{[]rect.Rect{box(0, 0, 3, 1), box(0, 1, 1, 2), box(1, 1, 3, 2)}, []rect.Rect{box(0, 0, 3, 2)}},
		{[]rect.Rect{box(-far, -far, 0, far), box(0, math.MinInt, math.MaxInt, math.MaxInt)}, []rect.Rect{box(-far, -far, far, far)}},
		{[]rect.Rect{box(9, 0, 2, 2), box(far, far, far+2, far+2), box(0, 0, 1, 1)}, []rect.Rect{box(0, 0, 1, 1)}},
	}
	for _, c := range cases {
		if got := region.Of(c.l...).Rects(); !slices.Equal(got, c.want) {
			t.Errorf("Of %v: %v, not %v", c.l, got, c.want)
		}
	}
}

func checkBoth(t *testing.T, a, b region.Region, f, g grid) {
	t.Helper()
	if got := a.Or(b); !is(got, both(f, g, or)) {
		t.Fatalf("%v or %v: %v", a.Rects(), b.Rects(), got.Rects())
	}
	if got := a.And(b); !is(got, both(f, g, and)) {
		t.Fatalf("%v and %v: %v", a.Rects(), b.Rects(), got.Rects())
	}
	if got := a.Minus(b); !is(got, both(f, g, minus)) {
		t.Fatalf("%v minus %v: %v", a.Rects(), b.Rects(), got.Rects())
	}
}

func TestBothOfSmall(t *testing.T) {
	grids := thirdGrids()
	var regions []region.Region
	for _, g := range grids {
		regions = append(regions, g.region())
	}
	for i, a := range regions {
		for j, b := range regions {
			checkBoth(t, a, b, grids[i], grids[j])
		}
	}
}

func TestBothOfRandom(t *testing.T) {
	r := rand.New(rand.NewSource(2))
	for range 5000 {
		f, g := randomGrid(r), randomGrid(r)
		checkBoth(t, f.region(), g.region(), f, g)
	}
}

func TestBothEdges(t *testing.T) {
	none, one := region.Region{}, region.Of(box(1, 2, 3, 4))
	all := region.Of(box(math.MinInt, math.MinInt, math.MaxInt, math.MaxInt))
	cases := []struct {
		name      string
		got, want region.Region
	}{
		{"or none", one.Or(none), one},
		{"none or", none.Or(one), one},
		{"none or none", none.Or(none), none},
		{"and none", one.And(none), none},
		{"none and", none.And(one), none},
		{"minus none", one.Minus(none), one},
		{"none minus", none.Minus(one), none},
		{"or itself", one.Or(one), one},
		{"and itself", one.And(one), one},
		{"minus itself", one.Minus(one), none},
		{"or all", one.Or(all), all},
		{"and all", one.And(all), one},
		{"minus all", one.Minus(all), none},
		{"all minus all", all.Minus(all), none},
		{"all minus one or one", all.Minus(one).Or(one), all},
	}
	for _, c := range cases {
		if !c.got.Same(c.want) || !slices.Equal(c.got.Rects(), c.want.Rects()) {
			t.Errorf("%s: %v, not %v", c.name, c.got.Rects(), c.want.Rects())
		}
	}
	want := []rect.Rect{box(-far, -far, far, 2), box(-far, 2, 1, 4), box(3, 2, far, 4), box(-far, 4, far, far)}
	if got := all.Minus(one).Rects(); !slices.Equal(got, want) {
		t.Errorf("all but one: %v", got)
	}
}

func TestMoveSmall(t *testing.T) {
	r := rand.New(rand.NewSource(3))
	for range 500 {
		g := randomGrid(r)
		a := g.region()
		for _, d := range [][2]int{{0, 0}, {1, 0}, {0, 1}, {-3, 4}, {100, -100}, {far - side, far - side}, {-far, -far}} {
			want := g.rects()
			for i := range want {
				want[i] = box(want[i].X0+d[0], want[i].Y0+d[1], want[i].X1+d[0], want[i].Y1+d[1])
			}
			if got := a.Move(d[0], d[1]).Rects(); !slices.Equal(got, want) {
				t.Fatalf("%v moved by %v: %v", a.Rects(), d, got)
			}
			if back := a.Move(d[0], d[1]).Move(-d[0], -d[1]); !is(back, g) {
				t.Fatalf("%v moved by %v and back: %v", a.Rects(), d, back.Rects())
			}
		}
	}
}

// shifted is the grid moved, without what is beyond its sides.
func (g grid) shifted(dx, dy int) grid {
	var to grid
	for y := range side {
		for x := range side {
			if x+dx >= 0 && x+dx < side && y+dy >= 0 && y+dy < side {
				to[y+dy][x+dx] = g[y][x]
			}
		}
	}
	return to
}

// At each corner of the range lies a grid, of which a move drops pixels.
func TestMoveBeyond(t *testing.T) {
	r := rand.New(rand.NewSource(4))
	for range 200 {
		g := randomGrid(r)
		for _, at := range [][2]int{{-far, -far}, {far - side, -far}, {-far, far - side}, {far - side, far - side}} {
			right, down := at[0] > 0, at[1] > 0
			for d := range (side + 1) * (side + 1) {
				dx, dy := d%(side+1), d/(side+1)
				if !right {
					dx = -dx
				}
				if !down {
					dy = -dy
				}
				moved := g.region().Move(at[0], at[1]).Move(dx, dy)
				if got := moved.Move(-at[0], -at[1]); !is(got, g.shifted(dx, dy)) {
					t.Fatalf("%v at %v moved by %d, %d: %v", g.rects(), at, dx, dy, got.Rects())
				}
			}
		}
	}
}

func TestMoveEdges(t *testing.T) {
	all := box(-far, -far, far, far)
	cases := []struct {
		l      []rect.Rect
		dx, dy int
		want   []rect.Rect
	}{
		{nil, 5, 5, nil},
		{[]rect.Rect{box(1, 2, 3, 4)}, 10, -20, []rect.Rect{box(11, -18, 13, -16)}},
		{[]rect.Rect{box(1, 2, 3, 4)}, math.MaxInt, 0, nil},
		{[]rect.Rect{box(1, 2, 3, 4)}, 0, math.MinInt, nil},
		{[]rect.Rect{box(-far, -far, 1-far, 1-far)}, 2*far - 1, 2*far - 1, []rect.Rect{box(far-1, far-1, far, far)}},
		{[]rect.Rect{all}, math.MinInt, 0, nil},
		{[]rect.Rect{all}, 2*far - 1, 0, []rect.Rect{box(far-1, -far, far, far)}},
		{[]rect.Rect{all}, 0, 1 - 2*far, []rect.Rect{box(-far, -far, far, 1-far)}},
		{[]rect.Rect{all}, 2 * far, 0, nil},
		// Bands that become alike at the end of the range are one band.
		{[]rect.Rect{box(0, 0, 5, 1), box(0, 1, 6, 2)}, far - 5, 0, []rect.Rect{box(far-5, 0, far, 2)}},
		{[]rect.Rect{box(3, 0, 9, 1), box(4, 1, 9, 2), box(3, 2, 9, 3)}, -far - 4, 0, []rect.Rect{box(-far, 0, 5-far, 3)}},
		{[]rect.Rect{box(0, 0, 1, 2), box(5, 1, 6, 2)}, far - 5, 0, []rect.Rect{box(far-5, 0, far-4, 2)}},
		// A band between two others vanishes, and they stay apart.
		{[]rect.Rect{box(0, 0, 2, 1), box(1, 1, 2, 2), box(0, 2, 2, 3)}, far - 1, 0, []rect.Rect{box(far-1, 0, far, 1), box(far-1, 2, far, 3)}},
		{[]rect.Rect{box(0, 0, 1, 1), box(2, 1, 3, 2), box(4, 2, 5, 3)}, 0, -far - 1, []rect.Rect{box(2, -far, 3, 1-far), box(4, 1-far, 5, 2-far)}},
	}
	for _, c := range cases {
		a := region.Of(c.l...)
		got := a.Move(c.dx, c.dy)
		if !slices.Equal(got.Rects(), c.want) || !got.Same(region.Of(c.want...)) {
			t.Errorf("%v moved by %d, %d: %v, not %v", c.l, c.dx, c.dy, got.Rects(), c.want)
		}
	}
}

// ends are numbers about the ends of the range and of int.
func ends() []int {
	return []int{math.MinInt, -far - 1, -far, -far + 1, -1, 0, 5, far - 1, far, far + 1, math.MaxInt}
}

func randomEnds(r *rand.Rand) []rect.Rect {
	all := ends()
	at := func() int { return all[r.Intn(len(all))] }
	l := make([]rect.Rect, r.Intn(6))
	for i := range l {
		l[i] = box(at(), at(), at(), at())
	}
	return l
}

func anyHas(l []rect.Rect, x, y int) bool {
	return slices.ContainsFunc(l, func(r rect.Rect) bool { return r.Has(x, y) })
}

// Rectangles whose numbers lie at the ends of the range and beyond, held against the pixels at those numbers, which stand for all others.
func TestEnds(t *testing.T) {
	r := rand.New(rand.NewSource(5))
	for range 3000 {
		l, m := randomEnds(r), randomEnds(r)
		a, b := region.Of(l...), region.Of(m...)
		for _, x := range ends() {
			for _, y := range ends() {
				inA, inB := anyHas(l, x, y), anyHas(m, x, y)
				if a.Has(x, y) != inA || a.Or(b).Has(x, y) != (inA || inB) || a.And(b).Has(x, y) != (inA && inB) || a.Minus(b).Has(x, y) != (inA && !inB) {
					t.Fatalf("%v and %v at %d, %d", l, m, x, y)
				}
			}
		}
		for _, c := range []region.Region{a, a.Or(b), a.And(b), a.Minus(b), a.Move(7, -far), a.Move(-far-1, 1)} {
			checkForm(t, c)
		}
	}
}

// checkForm of the rectangles of a region: normalized, in order, in maximal bands of maximal runs; and what follows from them.
func checkForm(t *testing.T, a region.Region) {
	t.Helper()
	var above, row []rect.Rect
	area, hull := new(big.Int), rect.Rect{}
	l := a.Rects()
	for i, r := range l {
		if r != r.Right() || r.Empty() {
			t.Fatalf("%v: %v is not normalized", l, r)
		}
		size := new(big.Int).Mul(big.NewInt(int64(r.X1-r.X0)), big.NewInt(int64(r.Y1-r.Y0)))
		area, hull = area.Add(area, size), hull.Hull(r)
		switch {
		case len(row) > 0 && r.Y0 == row[0].Y0 && r.Y1 == row[0].Y1:
			if row[len(row)-1].X1 >= r.X0 {
				t.Fatalf("%v: %v is no run of its own", l, r)
			}
		case len(row) > 0 && r.Y0 < row[0].Y1:
			t.Fatalf("%v: %v is in two bands", l, r)
		default:
			above, row = row, nil
		}
		row = append(row, r)
		if last := i == len(l)-1 || l[i+1].Y0 != r.Y0; last && oneBand(above, row) {
			t.Fatalf("%v: two bands at %d are one", l, r.Y0)
		}
	}
	if area.Cmp(big.NewInt(a.Area())) != 0 || hull != a.Hull() {
		t.Fatalf("%v: area %d, hull %v", l, a.Area(), a.Hull())
	}
	if !region.Of(l...).Same(a) || !a.Same(region.Of(l...)) {
		t.Fatalf("%v: not the same as its rectangles", l)
	}
}

// oneBand: do two bands touch and have the same runs?
func oneBand(above, below []rect.Rect) bool {
	if len(above) == 0 || above[0].Y1 != below[0].Y0 {
		return false
	}
	return slices.EqualFunc(above, below, func(r, s rect.Rect) bool { return r.X0 == s.X0 && r.X1 == s.X1 })
}

// No call changes what it is given, nor a region that it gave before.
func TestNotModified(t *testing.T) {
	l := []rect.Rect{box(0, 0, 4, 4), box(9, 9, 2, 2), box(2, 2, math.MaxInt, 6), box(7, 7, 8, 8)}
	given := slices.Clone(l)
	a := region.Of(l[:3]...)
	if !slices.Equal(l, given) {
		t.Errorf("Of has changed its arguments: %v", l)
	}
	want := []rect.Rect{box(0, 0, 4, 2), box(0, 2, far, 4), box(2, 4, far, 6)}
	b := region.Of(box(1, 1, 3, 9))
	clear(l)
	for _, c := range []region.Region{a.Or(b), b.Or(a), a.And(b), a.Minus(b), b.Minus(a), a.Move(1, 1), a.Move(far, 0), a.Or(region.Region{}), a.Minus(region.Region{})} {
		clear(c.Rects())
		c.Or(b)
		c.Move(0, 1)
	}
	clear(a.Rects())
	a.Has(1, 1)
	a.Hull()
	a.Area()
	a.Same(b)
	if got := a.Rects(); !slices.Equal(got, want) {
		t.Errorf("a: %v", got)
	}
	if got := b.Rects(); !slices.Equal(got, []rect.Rect{box(1, 1, 3, 9)}) {
		t.Errorf("b: %v", got)
	}
}

// Two regions that come from one share nothing that a later call changes.
func TestBranches(t *testing.T) {
	a := region.Of(box(0, 0, 1, 1), box(2, 0, 3, 1), box(0, 1, 3, 2))
	b := a.Or(region.Of(box(0, 2, 3, 3)))
	c := a.Or(region.Of(box(5, 5, 6, 6)))
	if got, want := a.Rects(), []rect.Rect{box(0, 0, 1, 1), box(2, 0, 3, 1), box(0, 1, 3, 2)}; !slices.Equal(got, want) {
		t.Errorf("a: %v", got)
	}
	if got, want := b.Rects(), []rect.Rect{box(0, 0, 1, 1), box(2, 0, 3, 1), box(0, 1, 3, 3)}; !slices.Equal(got, want) {
		t.Errorf("b: %v", got)
	}
	if got, want := c.Rects(), []rect.Rect{box(0, 0, 1, 1), box(2, 0, 3, 1), box(0, 1, 3, 2), box(5, 5, 6, 6)}; !slices.Equal(got, want) {
		t.Errorf("c: %v", got)
	}
}

// Many rectangles that are far apart, and a checkerboard, which has as many rectangles as pixels of one colour.
func TestMany(t *testing.T) {
	var diagonal []rect.Rect
	for i := range 50000 {
		diagonal = append(diagonal, box(3*i, 3*i, 3*i+2, 3*i+2))
	}
	want := slices.Clone(diagonal)
	slices.Reverse(diagonal)
	if got := region.Of(diagonal...).Rects(); !slices.Equal(got, want) {
		t.Errorf("diagonal: %d rectangles", len(got))
	}
	var board []rect.Rect
	for y := range 300 {
		for x := y % 2; x < 300; x += 2 {
			board = append(board, box(x, y, x+1, y+1))
		}
	}
	a := region.Of(board...)
	if !slices.Equal(a.Rects(), board) || a.Area() != 45000 || a.Hull() != rect.New(0, 0, 300, 300) {
		t.Errorf("board: %d rectangles, area %d, hull %v", len(a.Rects()), a.Area(), a.Hull())
	}
	whole := region.Of(box(0, 0, 300, 300))
	if got := a.Or(whole.Minus(a)); !got.Same(whole) {
		t.Errorf("both colours: %v", got.Rects())
	}
}

// P7.2

func TestHas(t *testing.T) {
	r := rand.New(rand.NewSource(6))
	for range 2000 {
		g := randomGrid(r)
		a := g.region()
		for y := -1; y <= side; y++ {
			for x := -1; x <= side; x++ {
				want := x >= 0 && y >= 0 && x < side && y < side && g[y][x]
				if got := a.Has(x, y); got != want {
					t.Fatalf("%v has %d, %d: %v", a.Rects(), x, y, got)
				}
			}
		}
	}
}

func TestHasAtTheEnds(t *testing.T) {
	all := region.Of(box(math.MinInt, math.MinInt, math.MaxInt, math.MaxInt))
	for _, x := range ends() {
		for _, y := range ends() {
			want := x >= -far && x < far && y >= -far && y < far
			if got := all.Has(x, y); got != want {
				t.Errorf("all has %d, %d: %v", x, y, got)
			}
			if (region.Region{}).Has(x, y) {
				t.Errorf("none has %d, %d", x, y)
			}
		}
	}
}

func TestRectsAreaHull(t *testing.T) {
	r := rand.New(rand.NewSource(7))
	grids := thirdGrids()
	for range 5000 {
		grids = append(grids, randomGrid(r))
	}
	for _, g := range grids {
		a := g.region()
		if got := a.Rects(); !slices.Equal(got, g.rects()) {
			t.Fatalf("Rects: %v, not %v", got, g.rects())
		}
		if got := a.Area(); got != g.area() {
			t.Fatalf("area of %v: %d", a.Rects(), got)
		}
		if got := a.Hull(); got != g.hull() {
			t.Fatalf("hull of %v: %v", a.Rects(), got)
		}
	}
}

func TestRectsAreNew(t *testing.T) {
	a := region.Of(box(0, 0, 4, 4), box(2, 2, 6, 6))
	first, second := a.Rects(), a.Rects()
	clear(first)
	if want := []rect.Rect{box(0, 0, 4, 2), box(0, 2, 6, 4), box(2, 4, 6, 6)}; !slices.Equal(second, want) || !slices.Equal(a.Rects(), want) {
		t.Errorf("%v, %v", second, a.Rects())
	}
}

func TestAreaAndHullOfAll(t *testing.T) {
	all := region.Of(box(math.MinInt, math.MinInt, math.MaxInt, math.MaxInt))
	if all.Area() != 1<<62 || all.Hull() != (box(-far, -far, far, far)) {
		t.Errorf("all: %d, %v", all.Area(), all.Hull())
	}
	middle := region.Of(box(0, 0, 1, 1))
	but := all.Minus(middle)
	if but.Area() != 1<<62-1 || but.Hull() != (box(-far, -far, far, far)) || but.Has(0, 0) {
		t.Errorf("all but one: %d, %v", but.Area(), but.Hull())
	}
	corners := region.Of(box(-far, far-1, 1-far, far), box(far-1, -far, far, 1-far))
	if corners.Area() != 2 || corners.Hull() != (box(-far, -far, far, far)) {
		t.Errorf("corners: %d, %v", corners.Area(), corners.Hull())
	}
	// The hull of what lies on one side of 0 does not reach to it.
	if got := region.Of(box(-9, 5, -7, 6), box(-4, 8, -3, 9)).Hull(); got != (box(-9, 5, -3, 9)) {
		t.Errorf("hull: %v", got)
	}
}

func TestSame(t *testing.T) {
	grids := thirdGrids()
	var regions []region.Region
	for _, g := range grids {
		regions = append(regions, g.region())
	}
	for i, a := range regions {
		for j, b := range regions {
			if got := a.Same(b); got != (i == j) {
				t.Fatalf("%v and %v: %v", a.Rects(), b.Rects(), got)
			}
		}
	}
}

// Regions of the same pixels are the same, however they came about.
func TestSameOtherwiseMade(t *testing.T) {
	r := rand.New(rand.NewSource(8))
	whole := region.Of(box(0, 0, side, side))
	for range 2000 {
		g, h := randomGrid(r), randomGrid(r)
		a, b := g.region(), h.region()
		pieces := g.rects()
		r.Shuffle(len(pieces), func(i, j int) { pieces[i], pieces[j] = pieces[j], pieces[i] })
		var joined region.Region
		for _, p := range pieces {
			joined = region.Of(p).Or(joined)
		}
		for _, c := range []region.Region{
			region.Of(pieces...), joined, a.Minus(b).Or(a.And(b)), whole.Minus(whole.Minus(a)), a.Or(b).Minus(b.Minus(a)), a.Move(3, -9).Move(-3, 9),
		} {
			if !c.Same(a) || !a.Same(c) || !slices.Equal(c.Rects(), a.Rects()) {
				t.Fatalf("%v, not %v", c.Rects(), a.Rects())
			}
		}
	}
}

// A pixel more, a pixel elsewhere, a band more: not the same.
func TestNotSame(t *testing.T) {
	l := [][]rect.Rect{
		nil, {box(0, 0, 2, 2)}, {box(0, 0, 2, 3)}, {box(0, 0, 3, 2)}, {box(0, 1, 2, 3)}, {box(1, 0, 3, 2)}, {box(0, 0, 1, 2)}, {box(0, 0, 2, 1)},
		{box(0, 0, 2, 2), box(3, 0, 4, 2)}, {box(0, 0, 2, 2), box(0, 3, 2, 4)}, {box(0, 0, 2, 2), box(0, 3, 2, 5)}, {box(-2, -2, 0, 0)},
	}
	for i, m := range l {
		for j, n := range l {
			if got := region.Of(m...).Same(region.Of(n...)); got != (i == j) {
				t.Errorf("%v and %v: %v", m, n, got)
			}
		}
	}
}
