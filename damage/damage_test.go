package damage_test

import (
	"math"
	"math/rand"
	"slices"
	"testing"

	"clapboard/api"
	"clapboard/damage"
	"clapboard/rect"
	"clapboard/region"
)

const far = api.MaxPx

// box is a rectangle that need not be normalized.
func box(x0, y0, x1, y1 int) rect.Rect {
	return rect.Rect{X0: x0, Y0: y0, X1: x1, Y1: y1}
}

func made(t *testing.T, most int) *damage.Damage {
	t.Helper()
	d, e := damage.New(most)
	if d == nil || e != api.OK {
		t.Fatalf("New(%d): %v, %d", most, d, e)
	}
	return d
}

func check(t *testing.T, d *damage.Damage, coarse bool, want ...rect.Rect) {
	t.Helper()
	if got := d.Region().Rects(); !slices.Equal(got, want) || d.Coarse() != coarse {
		t.Errorf("%v, %v, not %v, %v", got, d.Coarse(), want, coarse)
	}
}

// spots are single pixels, each a rectangle of its own.
func spots(n int) []rect.Rect {
	var l []rect.Rect
	for i := range n {
		l = append(l, box(2*i, i, 2*i+1, i+1))
	}
	return l
}

// P8.1

func TestNew(t *testing.T) {
	for most := 1; most <= api.MaxRects; most++ {
		check(t, made(t, most), false)
	}
	for _, most := range []int{math.MinInt, -api.MaxRects, -1, 0, api.MaxRects + 1, 1000, math.MaxInt} {
		if d, e := damage.New(most); d != nil || e != api.ErrArg {
			t.Errorf("New(%d): %v, %d", most, d, e)
		}
	}
}

// As many rectangles as permitted stay, one more is too many, whether they come one by one or all at once.
func TestMost(t *testing.T) {
	for most := 1; most <= api.MaxRects; most++ {
		one, all := made(t, most), made(t, most)
		l := spots(most)
		for i, r := range l {
			one.Add(r)
			check(t, one, false, l[:i+1]...)
		}
		all.Join(region.Of(l...))
		check(t, all, false, l...)
		last := box(500, 500, 501, 502)
		one.Add(last)
		check(t, one, true, box(0, 0, 501, 502))
		all.Join(region.Of(last))
		check(t, all, true, box(0, 0, 501, 502))
		over := made(t, most)
		over.Join(region.Of(append(l, last)...))
		check(t, over, true, box(0, 0, 501, 502))
	}
}

func TestAdd(t *testing.T) {
	d := made(t, 4)
	d.Add(rect.Rect{})
	d.Add(box(9, 0, 3, 3))
	d.Add(box(far, 0, far+9, 3))
	check(t, d, false)
	d.Add(box(0, 0, 4, 4))
	check(t, d, false, box(0, 0, 4, 4))
	d.Add(box(1, 1, 2, 2))
	check(t, d, false, box(0, 0, 4, 4))
	d.Add(box(2, 2, 6, 6))
	check(t, d, false, box(0, 0, 4, 2), box(0, 2, 6, 4), box(2, 4, 6, 6))
	// What is counted are the rectangles of the region, not what was added.
	d.Add(box(-9, 3, -8, 4))
	check(t, d, true, box(-9, 0, 6, 6))
	wide := made(t, 1)
	wide.Add(box(math.MinInt, 0, math.MaxInt, 3))
	check(t, wide, false, box(-far, 0, far, 3))
}

func TestJoin(t *testing.T) {
	d := made(t, 2)
	d.Join(region.Region{})
	d.Join(region.Of(box(5, 5, 5, 9)))
	check(t, d, false)
	d.Join(region.Of(box(0, 0, 1, 1), box(3, 0, 4, 1)))
	check(t, d, false, box(0, 0, 1, 1), box(3, 0, 4, 1))
	// Together they can have fewer rectangles than either.
	d.Join(region.Of(box(1, 0, 3, 1), box(0, 1, 4, 2)))
	check(t, d, false, box(0, 0, 4, 2))
	d.Join(region.Of(spots(3)...).Move(10, 10))
	check(t, d, true, box(0, 0, 15, 13))
}

// Coarse stays until the damage is cleared, and what is added after the hull is added to the hull.
func TestCoarse(t *testing.T) {
	d := made(t, 1)
	d.Add(box(0, 0, 1, 1))
	check(t, d, false, box(0, 0, 1, 1))
	d.Add(box(5, 5, 6, 6))
	check(t, d, true, box(0, 0, 6, 6))
	d.Add(rect.Rect{})
	check(t, d, true, box(0, 0, 6, 6))
	d.Add(box(0, 6, 6, 7))
	check(t, d, true, box(0, 0, 6, 7))
	d.Add(box(-1, 0, 0, 1))
	check(t, d, true, box(-1, 0, 6, 7))
	two := made(t, 2)
	two.Join(region.Of(spots(3)...))
	check(t, two, true, box(0, 0, 5, 3))
	two.Add(box(9, 9, 10, 10))
	check(t, two, true, box(0, 0, 5, 3), box(9, 9, 10, 10))
}

func TestClear(t *testing.T) {
	d := made(t, 1)
	d.Clear()
	check(t, d, false)
	d.Add(box(0, 0, 1, 1))
	d.Clear()
	check(t, d, false)
	d.Add(box(5, 5, 6, 6))
	check(t, d, false, box(5, 5, 6, 6))
	d.Add(box(0, 0, 1, 1))
	check(t, d, true, box(0, 0, 6, 6))
	d.Clear()
	check(t, d, false)
	// The limit is still the same.
	d.Join(region.Of(spots(2)...))
	check(t, d, true, box(0, 0, 3, 2))
}

func TestNil(t *testing.T) {
	var d *damage.Damage
	d.Add(box(0, 0, 1, 1))
	d.Join(region.Of(box(0, 0, 1, 1)))
	d.Clear()
	if got := d.Region(); !got.Same(region.Region{}) || d.Coarse() {
		t.Errorf("nil: %v, %v", got.Rects(), d.Coarse())
	}
}

// What Region gave does not change any more, nor does what was joined, and two damages are apart.
func TestApart(t *testing.T) {
	d, other := made(t, 3), made(t, 3)
	joined := region.Of(box(0, 0, 1, 1))
	d.Join(joined)
	other.Join(joined)
	before := d.Region()
	clear(before.Rects())
	d.Add(box(0, 1, 1, 2))
	d.Add(box(4, 4, 5, 5))
	for _, a := range []region.Region{joined, before, other.Region()} {
		if got := a.Rects(); !slices.Equal(got, []rect.Rect{box(0, 0, 1, 1)}) {
			t.Errorf("changed: %v", got)
		}
	}
	check(t, d, false, box(0, 0, 1, 2), box(4, 4, 5, 5))
	d.Clear()
	check(t, other, false, box(0, 0, 1, 1))
}

// P8.2

// model keeps what was added beside what the document says of the region.
type model struct {
	most         int
	added, shown region.Region
	coarse       bool
}

func (m *model) join(a region.Region) {
	m.added, m.shown = m.added.Or(a), m.shown.Or(a)
	if len(m.shown.Rects()) > m.most {
		m.shown, m.coarse = region.Of(m.shown.Hull()), true
	}
}

func (m *model) check(t *testing.T, d *damage.Damage) {
	t.Helper()
	got := d.Region()
	if !got.Same(m.shown) || d.Coarse() != m.coarse {
		t.Fatalf("at most %d: %v, %v, not %v, %v", m.most, got.Rects(), d.Coarse(), m.shown.Rects(), m.coarse)
	}
	if len(m.added.Minus(got).Rects()) > 0 {
		t.Fatalf("%v lacks some of %v", got.Rects(), m.added.Rects())
	}
	if len(got.Rects()) > m.most {
		t.Fatalf("%v: more than %d", got.Rects(), m.most)
	}
	if !m.added.Hull().Holds(got.Hull()) {
		t.Fatalf("%v is beyond the hull of %v", got.Rects(), m.added.Rects())
	}
	if !d.Coarse() && !got.Same(m.added) {
		t.Fatalf("%v, not exactly %v", got.Rects(), m.added.Rects())
	}
}

func randomRect(r *rand.Rand) rect.Rect {
	x, y := r.Intn(40)-20, r.Intn(40)-20
	return box(x, y, x+r.Intn(9)-1, y+r.Intn(9)-1)
}

func TestSteps(t *testing.T) {
	r := rand.New(rand.NewSource(1))
	for range 300 {
		most := 1 + r.Intn(api.MaxRects)
		if r.Intn(2) == 0 {
			most = 1 + r.Intn(6)
		}
		d, m := made(t, most), &model{most: most}
		for range 60 {
			switch r.Intn(12) {
			case 0:
				d.Clear()
				m = &model{most: most}
			case 1, 2:
				a := region.Of(randomRect(r), randomRect(r), randomRect(r))
				d.Join(a)
				m.join(a)
			default:
				s := randomRect(r)
				d.Add(s)
				m.join(region.Of(s))
			}
			m.check(t, d)
		}
	}
}

// The limit is at its least and at its greatest, on all pixels.
func TestStepsOnAll(t *testing.T) {
	for _, most := range []int{1, api.MaxRects} {
		d, m := made(t, most), &model{most: most}
		for _, s := range []rect.Rect{
			box(-far, -far, 1-far, 1-far), box(far-1, far-1, far, far), box(0, 0, 1, 1), box(math.MinInt, 0, math.MaxInt, 1), box(math.MinInt, math.MinInt, math.MaxInt, math.MaxInt),
		} {
			d.Add(s)
			m.join(region.Of(s))
			m.check(t, d)
		}
		if got := d.Region().Area(); got != 1<<62 {
			t.Errorf("all: %d", got)
		}
	}
}
