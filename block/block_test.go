package block_test

import (
	"math"
	"math/big"
	"math/rand/v2"
	"slices"
	"testing"

	"clapboard/api"
	"clapboard/block"
	"clapboard/fixed"
	"clapboard/margin"
)

const (
	least = math.MinInt64
	most  = math.MaxInt64
	top   = api.MaxLen
)

type (
	kid     = block.Kid
	out     = block.Out
	margins = margin.Margins
)

// none of any margins.
var none = margins{}

// of some margins, combined.
func of(l ...int64) margins {
	var m margins
	for _, n := range l {
		m.Up, m.Down = max(m.Up, n), min(m.Down, n)
	}
	return m
}

// solid: a kid that is not Through.
func solid(before, height, after int64) kid {
	return kid{Before: of(before), Height: height, After: of(after)}
}

// through: a kid whose height and After would break everything if they counted.
func through(before int64) kid {
	return kid{Before: of(before), Height: most, After: margins{Up: most, Down: least}, Through: true}
}

// stack calls what may abort: its result, or the error.
func stack(l []kid, openTop, openBottom bool) (o out, e api.Errno) {
	e = fixed.Try(func() { o = block.Stack(l, openTop, openBottom) })
	return o, e
}

func same(a, b out) bool {
	return slices.Equal(a.Y, b.Y) && a.Height == b.Height && a.Before == b.Before && a.After == b.After && a.Through == b.Through
}

// ends that are open: at the top, at the bottom.
type ends struct {
	top, bottom bool
}

var (
	closed   = ends{}
	atTop    = ends{top: true}
	atBottom = ends{bottom: true}
	both     = ends{top: true, bottom: true}
)

func allEnds() []ends {
	return []ends{closed, atTop, atBottom, both}
}

func check(t *testing.T, l []kid, open ends, want out) {
	t.Helper()
	if got, e := stack(l, open.top, open.bottom); !same(got, want) || e != 0 {
		t.Errorf("Stack(%v, %v): %v, %d, not %v", l, open, got, e, want)
	}
}

func checkRange(t *testing.T, l []kid, open ends) {
	t.Helper()
	if got, e := stack(l, open.top, open.bottom); !same(got, out{}) || e != api.ErrRange {
		t.Errorf("Stack(%v, %v): %v, %d, not ErrRange", l, open, got, e)
	}
}

// model of the definitions, in numbers without an end: each position is looked for anew. Each sum that is no length ends it.
type model struct {
	kids []kid
	open ends
	out  bool
}

func (m *model) length(n *big.Int) *big.Int {
	if n.CmpAbs(big.NewInt(top)) > 0 {
		m.out = true
	}
	return n
}

func (m *model) add(n *big.Int, by int64) *big.Int {
	return m.length(new(big.Int).Add(n, big.NewInt(by)))
}

// sum of margins.
func (m *model) sum(l []margins) *big.Int {
	all := combined(l)
	return m.add(m.length(big.NewInt(all.Up)), all.Down)
}

func combined(l []margins) margins {
	var all margins
	for _, x := range l {
		all.Up, all.Down = max(all.Up, x.Up), min(all.Down, x.Down)
	}
	return all
}

// solidBefore: the last kid before one that is not Through, or -1.
func (m *model) solidBefore(i int) int {
	for i--; i >= 0 && m.kids[i].Through; i-- {
	}
	return i
}

// marginsBefore a kid; those before the end are the rest.
func (m *model) marginsBefore(i int) []margins {
	var l []margins
	if i < len(m.kids) {
		l = append(l, m.kids[i].Before)
	}
	above := m.solidBefore(i)
	for _, x := range m.kids[above+1 : i] {
		l = append(l, x.Before)
	}
	if above >= 0 {
		l = append(l, m.kids[above].After)
	}
	return l
}

func (m *model) position(i int) *big.Int {
	above := m.solidBefore(i)
	if above < 0 && m.open.top {
		return new(big.Int)
	}
	distance := m.sum(m.marginsBefore(i))
	if above < 0 {
		return distance
	}
	return m.length(distance.Add(distance, m.end(above)))
}

func (m *model) end(i int) *big.Int {
	return m.add(m.position(i), m.kids[i].Height)
}

func (m *model) height(last int) *big.Int {
	h := new(big.Int)
	if last >= 0 {
		h = m.end(last)
	}
	if !m.open.bottom && (last >= 0 || !m.open.top) {
		h = m.length(h.Add(h, m.sum(m.marginsBefore(len(m.kids)))))
	}
	return h
}

func (m *model) stack() out {
	var o out
	for i := range m.kids {
		o.Y = append(o.Y, m.position(i).Int64())
	}
	last := m.solidBefore(len(m.kids))
	o.Height = max(m.height(last).Int64(), 0)
	rest := combined(m.marginsBefore(len(m.kids)))
	if last < 0 {
		o.Through = m.open == both
		if m.open.top {
			o.Before = rest
		} else if m.open.bottom {
			o.After = rest
		}
		return o
	}
	if m.open.top {
		first := slices.IndexFunc(m.kids, func(x kid) bool { return !x.Through })
		o.Before = combined(m.marginsBefore(first))
	}
	if m.open.bottom {
		o.After = rest
	}
	return o
}

// compare with the model: whether it was in range.
func compare(t *testing.T, l []kid, open ends) bool {
	t.Helper()
	m := &model{kids: l, open: open}
	want := m.stack()
	if m.out {
		checkRange(t, l, open)
	} else {
		check(t, l, open, want)
	}
	return !m.out
}

// P17.1

func TestExample(t *testing.T) {
	check(t, []kid{solid(0, 10, 5), solid(8, 20, 0)}, closed, out{Y: []int64{0, 18}, Height: 38})
}

func TestNoKids(t *testing.T) {
	for _, l := range [][]kid{nil, {}} {
		check(t, l, closed, out{})
		check(t, l, atTop, out{})
		check(t, l, atBottom, out{})
		check(t, l, both, out{Through: true})
	}
}

func TestOneKid(t *testing.T) {
	l := []kid{solid(3, 10, 5)}
	check(t, l, closed, out{Y: []int64{3}, Height: 18})
	check(t, l, atTop, out{Y: []int64{0}, Height: 15, Before: of(3)})
	check(t, l, atBottom, out{Y: []int64{3}, Height: 13, After: of(5)})
	check(t, l, both, out{Y: []int64{0}, Height: 10, Before: of(3), After: of(5)})
}

func TestMarginsOfBothSigns(t *testing.T) {
	// Between 7 and -4 the distance is 3, between -2 and -9 it is -9.
	l := []kid{solid(-6, 10, 7), solid(-4, 20, -2), solid(-9, 30, -1)}
	check(t, l, closed, out{Y: []int64{-6, 7, 18}, Height: 47})
	check(t, l, both, out{Y: []int64{0, 13, 24}, Height: 54, Before: of(-6), After: of(-1)})
	// A kid's own margins may have both signs: those of what is within it.
	l = []kid{{Before: of(9, -2), Height: 10, After: of(4, -3)}, {Before: of(6, -1), Height: 1, After: of(2, -8)}}
	check(t, l, closed, out{Y: []int64{7, 20}, Height: 15})
	check(t, l, both, out{Y: []int64{0, 13}, Height: 14, Before: of(9, -2), After: of(2, -8)})
}

func TestHeightZeroIsNotThrough(t *testing.T) {
	l := []kid{solid(5, 0, 9), solid(2, 0, 3)}
	check(t, l, closed, out{Y: []int64{5, 14}, Height: 17})
	check(t, l, both, out{Y: []int64{0, 9}, Height: 9, Before: of(5), After: of(3)})
}

func TestThroughBetween(t *testing.T) {
	// The margins 5, 8, -3 and 6 are all before the last kid; those up to its own are before each Through one.
	l := []kid{solid(0, 10, 5), through(8), through(-3), solid(6, 20, 0)}
	check(t, l, closed, out{Y: []int64{0, 18, 15, 15}, Height: 35})
	// The order of the margins doesn't matter for what comes after them.
	l = []kid{solid(0, 10, 5), through(-3), through(8), solid(6, 20, 0)}
	check(t, l, closed, out{Y: []int64{0, 12, 15, 15}, Height: 35})
	// A kid that is not Through ends them.
	l = []kid{solid(0, 10, 5), through(8), solid(1, 10, 2), through(4), solid(0, 10, 0)}
	check(t, l, closed, out{Y: []int64{0, 18, 18, 32, 32}, Height: 42})
}

func TestThroughFirst(t *testing.T) {
	l := []kid{through(4), through(-3), solid(7, 10, 2)}
	check(t, l, closed, out{Y: []int64{4, 1, 4}, Height: 16})
	check(t, l, atTop, out{Y: []int64{0, 0, 0}, Height: 12, Before: of(7, -3)})
	check(t, l, atBottom, out{Y: []int64{4, 1, 4}, Height: 14, After: of(2)})
	check(t, l, both, out{Y: []int64{0, 0, 0}, Height: 10, Before: of(7, -3), After: of(2)})
}

func TestThroughLast(t *testing.T) {
	l := []kid{solid(7, 10, 2), through(4), through(-3)}
	check(t, l, closed, out{Y: []int64{7, 21, 18}, Height: 18})
	check(t, l, atTop, out{Y: []int64{0, 14, 11}, Height: 11, Before: of(7)})
	check(t, l, atBottom, out{Y: []int64{7, 21, 18}, Height: 17, After: of(4, -3)})
	check(t, l, both, out{Y: []int64{0, 14, 11}, Height: 10, Before: of(7), After: of(4, -3)})
}

func TestAllThrough(t *testing.T) {
	l := []kid{through(4), through(-3), through(9)}
	check(t, l, closed, out{Y: []int64{4, 1, 6}, Height: 6})
	check(t, l, atTop, out{Y: []int64{0, 0, 0}, Before: of(9, -3)})
	check(t, l, atBottom, out{Y: []int64{4, 1, 6}, After: of(9, -3)})
	check(t, l, both, out{Y: []int64{0, 0, 0}, Before: of(9, -3), Through: true})
	// Their After is ignored even alone.
	check(t, []kid{{After: of(50), Height: 60, Through: true}}, closed, out{Y: []int64{0}})
	check(t, []kid{{After: of(50), Height: 60, Through: true}}, atBottom, out{Y: []int64{0}})
}

func TestHeightIsAtLeastZero(t *testing.T) {
	check(t, []kid{solid(-9, 4, 3)}, closed, out{Y: []int64{-9}})
	check(t, []kid{solid(-9, 4, 3)}, atBottom, out{Y: []int64{-9}, After: of(3)})
	check(t, []kid{solid(0, 4, -9)}, closed, out{Y: []int64{0}})
	check(t, []kid{solid(-9, 4, 6)}, closed, out{Y: []int64{-9}, Height: 1})
	check(t, []kid{solid(0, -4, 3)}, both, out{Y: []int64{0}, After: of(3)})
	check(t, []kid{through(-9)}, closed, out{Y: []int64{-9}})
	// What counts is the end of the last kid, even if another one ends below it.
	check(t, []kid{solid(0, 10, -30), solid(0, 5, 0)}, closed, out{Y: []int64{0, -20}})
	check(t, []kid{solid(0, 30, -25), solid(0, 5, 0)}, closed, out{Y: []int64{0, 5}, Height: 10})
}

func TestKidsAtTheEndsOfTheRange(t *testing.T) {
	for _, open := range allEnds() {
		check(t, []kid{solid(0, top, 0)}, open, out{Y: []int64{0}, Height: top})
		checkRange(t, []kid{solid(0, top+1, 0)}, open)
		check(t, []kid{solid(0, -top, 0)}, open, out{Y: []int64{0}})
		checkRange(t, []kid{solid(0, -top-1, 0)}, open)
		checkRange(t, []kid{solid(0, most, 0)}, open)
		checkRange(t, []kid{solid(0, least, 0)}, open)
		check(t, []kid{solid(0, top, 0), solid(0, 0, 0)}, open, out{Y: []int64{0, top}, Height: top})
		checkRange(t, []kid{solid(0, top, 0), solid(0, 1, 0)}, open)
		checkRange(t, []kid{solid(0, top, 1), solid(0, -1, 0)}, open)
		checkRange(t, []kid{solid(0, top, 0), solid(1, -1, 0)}, open)
		checkRange(t, []kid{solid(0, -top, 0), solid(-1, 1, 0)}, open)
		// The margins are one sum of their own.
		checkRange(t, []kid{solid(0, -5, top+1), solid(0, 0, 0)}, open)
		check(t, []kid{solid(0, -5, top), solid(0, 0, 0)}, open, out{Y: []int64{0, top - 5}, Height: top - 5})
		checkRange(t, []kid{solid(0, 5, -top-1), solid(0, 0, 0)}, open)
		check(t, []kid{solid(0, 5, -top-1), solid(1, top, 0)}, open, out{Y: []int64{0, 5 - top}, Height: 5})
		// A Through kid has a position, even if nothing else hangs on it.
		checkRange(t, []kid{solid(0, top, 0), through(1)}, open)
		checkRange(t, []kid{solid(0, top, 0), through(1), solid(-1, 0, 0)}, open)
		check(t, []kid{solid(0, top, -1), through(1), solid(-1, 0, 0)}, open, out{Y: []int64{0, top, top}, Height: top})
	}
	// A height that is no length can still end at one.
	check(t, []kid{solid(-1, top+1, 0)}, closed, out{Y: []int64{-1}, Height: top})
	checkRange(t, []kid{solid(-1, top+1, 0)}, atTop)
}

func TestOpenEndsAtTheEndsOfTheRange(t *testing.T) {
	// At an open end the margins are not summed, but only combined.
	check(t, []kid{solid(most, 1, 0)}, atTop, out{Y: []int64{0}, Height: 1, Before: of(most)})
	check(t, []kid{through(least), solid(most, 1, 0)}, atTop, out{Y: []int64{0, 0}, Height: 1, Before: of(most, least)})
	check(t, []kid{solid(0, 1, least)}, atBottom, out{Y: []int64{0}, Height: 1, After: of(least)})
	check(t, []kid{through(most)}, atTop, out{Y: []int64{0}, Before: of(most)})
	check(t, []kid{through(most), through(least)}, both, out{Y: []int64{0, 0}, Before: of(most, least), Through: true})
	for _, open := range []ends{closed, atBottom} {
		checkRange(t, []kid{solid(top+1, -1, 0)}, open)
		checkRange(t, []kid{solid(-top-1, 1, 0)}, open)
		checkRange(t, []kid{through(top + 1), solid(-1, 0, 0)}, open)
		checkRange(t, []kid{through(top + 1)}, open)
		checkRange(t, []kid{through(-top - 1)}, open)
	}
	for _, open := range []ends{closed, atTop} {
		checkRange(t, []kid{solid(0, -1, top+1)}, open)
		checkRange(t, []kid{solid(0, top, 1)}, open)
		checkRange(t, []kid{solid(0, -top, -1)}, open)
		check(t, []kid{solid(0, top, -1)}, open, out{Y: []int64{0}, Height: top - 1})
	}
	check(t, []kid{through(top)}, closed, out{Y: []int64{top}, Height: top})
	check(t, []kid{through(-top)}, closed, out{Y: []int64{-top}})
	// The Through kids after an open end have positions none the less.
	checkRange(t, []kid{solid(0, 1, 0), through(top)}, both)
	check(t, []kid{solid(0, 1, 0), through(top - 1)}, both, out{Y: []int64{0, top}, Height: 1, After: of(top - 1)})
}

func TestAbortOutsideOfTry(t *testing.T) {
	defer func() {
		if recover() == nil {
			t.Error("no panic")
		}
	}()
	block.Stack([]kid{solid(0, top+1, 0)}, false, false)
}

func TestArgumentsAndResults(t *testing.T) {
	spare := []kid{solid(1, 2, 3), through(4), solid(5, 6, 7), solid(8, 9, 10)}
	kept := slices.Clone(spare)
	first, _ := stack(spare[:3], false, true)
	again, _ := stack(spare[:3], false, true)
	if !slices.Equal(spare, kept) {
		t.Error("the kids have changed:", spare)
	}
	again.Y[0] = 99
	if !slices.Equal(first.Y, []int64{1, 7, 8}) {
		t.Error("two results share a list:", first.Y)
	}
}

func TestMany(t *testing.T) {
	l := slices.Repeat([]kid{solid(2, 3, 1), through(-1)}, 50_000)
	got, e := stack(l, false, false)
	if e != 0 || got.Y[0] != 2 || got.Y[99_998] != 2+49_999*4 || got.Height != 49_999*4+5 {
		t.Error(got.Height, e)
	}
}

// TestSmall has all stacks of up to three kids with small margins and heights.
func TestSmall(t *testing.T) {
	var each []kid
	for _, before := range []margins{none, of(2), of(-1), of(5, -3)} {
		each = append(each, kid{Before: before, Through: true, After: of(7), Height: 9})
		for _, after := range []margins{none, of(3), of(-2)} {
			each = append(each, kid{Before: before, After: after}, kid{Before: before, After: after, Height: 4})
		}
	}
	for _, open := range allEnds() {
		compare(t, nil, open)
		for _, a := range each {
			compare(t, []kid{a}, open)
			for _, b := range each {
				compare(t, []kid{a, b}, open)
				for _, c := range each {
					compare(t, []kid{a, b, c}, open)
				}
			}
		}
	}
}

func TestRandom(t *testing.T) {
	random := rand.New(rand.NewPCG(17, 1))
	edges := []int64{least, -top - 1, -top, 1 - top, -top / 2, -2, -1, 0, 0, 0, 0, 1, 2, top / 2, top/2 + 1, top - 1, top, top + 1, most}
	wild, inRange := 0, 0
	for i := range 100_000 {
		number := func() int64 { return random.Int64N(60) - 30 }
		if i%2 == 0 {
			number = func() int64 { return edges[random.IntN(len(edges))] }
		}
		l := make([]kid, random.IntN(7))
		for j := range l {
			l[j] = kid{Before: of(number(), number()), After: of(number()), Height: number(), Through: random.IntN(2) == 0}
		}
		good := compare(t, l, allEnds()[random.IntN(4)])
		if i%2 == 0 {
			wild++
			if good {
				inRange++
			}
		}
	}
	if inRange < wild/20 || inRange > wild*19/20 {
		t.Errorf("%d of %d are in range: too few of one kind", inRange, wild)
	}
}
