package width_test

import (
	"math"
	"math/big"
	"math/rand/v2"
	"testing"

	"clapboard/api"
	"clapboard/fixed"
	"clapboard/sizing"
	"clapboard/width"
)

const (
	least = math.MinInt64
	most  = math.MaxInt64
	top   = api.MaxLen
)

type (
	in     = width.In
	out    = width.Out
	limits = sizing.Limits
)

// solve calls what may abort: its result, or the error.
func solve(x in) (o out, e api.Errno) {
	e = fixed.Try(func() { o = width.Solve(x) })
	return o, e
}

func check(t *testing.T, x in, want out, wantE api.Errno) {
	t.Helper()
	if got, e := solve(x); got != want || e != wantE {
		t.Errorf("Solve(%+v): %v, %d, not %v, %d", x, got, e, want, wantE)
	}
}

// model of the equation in numbers without an end; each number that is no length ends it.
type model struct {
	out bool
}

func (m *model) length(n *big.Int) *big.Int {
	if n.CmpAbs(big.NewInt(top)) > 0 {
		m.out = true
	}
	return n
}

func (m *model) term(n int64, auto bool) *big.Int {
	if auto {
		return new(big.Int)
	}
	return m.length(big.NewInt(n))
}

// rest of what there is, less the terms.
func (m *model) rest(avail *big.Int, terms ...*big.Int) *big.Int {
	sum := new(big.Int)
	for _, n := range terms {
		sum = m.length(new(big.Int).Add(sum, n))
	}
	return m.length(new(big.Int).Sub(avail, sum))
}

func (m *model) solve(x in) [3]*big.Int {
	avail, edges := m.term(x.Avail, false), m.term(x.Edges, false)
	w, left, right := m.term(x.W, x.Auto), m.term(x.Left, x.AutoL), m.term(x.Right, x.AutoR)
	excess := m.rest(avail, left, w, edges, right)
	if x.Auto && excess.Sign() >= 0 {
		w = excess
	}
	if !x.Auto && x.AutoL && excess.Sign() >= 0 {
		left = excess
		if x.AutoR {
			left = new(big.Int).Rsh(excess, 1)
		}
	}
	return [3]*big.Int{w, left, m.rest(avail, left, w, edges)}
}

func (m *model) limited(x in) [3]*big.Int {
	got := m.solve(x)
	if x.Limits.Bound && got[0].Cmp(big.NewInt(x.Limits.Most)) > 0 {
		x.W, x.Auto = x.Limits.Most, false
		got = m.solve(x)
	}
	if got[0].Cmp(big.NewInt(x.Limits.Least)) < 0 {
		x.W, x.Auto = x.Limits.Least, false
		got = m.solve(x)
	}
	return got
}

func expected(x in) (out, api.Errno) {
	m := &model{}
	got := m.limited(x)
	if m.out {
		return out{}, api.ErrRange
	}
	return out{W: got[0].Int64(), Left: got[1].Int64(), Right: got[2].Int64()}, api.OK
}

// each bit of flags is one of the autos, or the bound.
func flagged(x in, flags int) in {
	x.Auto, x.AutoL, x.AutoR = flags&1 != 0, flags&2 != 0, flags&4 != 0
	x.Limits.Bound = flags&8 != 0
	return x
}

// P15.1

func TestExample(t *testing.T) {
	check(t, in{Avail: 100, W: 40, AutoL: true, AutoR: true}, out{40, 30, 30}, 0)
	check(t, in{Avail: 100, W: 120}, out{120, 0, -20}, 0)
}

func TestAutoWidth(t *testing.T) {
	check(t, in{Avail: 100, Auto: true}, out{100, 0, 0}, 0)
	check(t, in{Avail: 100, Auto: true, Left: 10, Right: 20, Edges: 6}, out{64, 10, 20}, 0)
	check(t, in{Avail: 100, Auto: true, Left: -10, Right: -20, Edges: 6}, out{124, -10, -20}, 0)
	// Margins that are auto are 0, even if no width is left.
	check(t, in{Avail: 100, Auto: true, AutoL: true, AutoR: true, Edges: 6}, out{94, 0, 0}, 0)
	check(t, in{Avail: 100, Auto: true, AutoL: true, Right: 20, Edges: 6}, out{74, 0, 20}, 0)
	check(t, in{Avail: 100, Auto: true, AutoR: true, Left: 20, Edges: 6}, out{74, 20, 0}, 0)
	check(t, in{Avail: 100, Auto: true, AutoL: true, AutoR: true, Edges: 130}, out{0, 0, -30}, 0)
	// The width is at least 0, and the right margin makes up for it.
	check(t, in{Avail: 100, Auto: true, Left: 60, Right: 60, Edges: 10}, out{0, 60, 30}, 0)
	check(t, in{Avail: 100, Auto: true, Left: 40, Right: 50, Edges: 10}, out{0, 40, 50}, 0)
	check(t, in{Avail: -100, Auto: true}, out{0, 0, -100}, 0)
}

func TestGivenWidth(t *testing.T) {
	// Neither margin is auto: the right one is told by the equation, whatever it was.
	check(t, in{Avail: 100, W: 40, Left: 10, Right: 20}, out{40, 10, 50}, 0)
	check(t, in{Avail: 100, W: 40, Left: 10, Right: 90, Edges: 6}, out{40, 10, 44}, 0)
	check(t, in{Avail: 100, W: 140, Left: 10, Right: 20}, out{140, 10, -50}, 0)
	// One is auto.
	check(t, in{Avail: 100, W: 40, AutoL: true, Right: 20, Edges: 6}, out{40, 34, 20}, 0)
	check(t, in{Avail: 100, W: 40, Left: 10, AutoR: true, Edges: 6}, out{40, 10, 44}, 0)
	check(t, in{Avail: 100, W: 40, AutoL: true, Right: -20}, out{40, 80, -20}, 0)
	// Both are auto: the right one has the odd unit.
	check(t, in{Avail: 101, W: 40, AutoL: true, AutoR: true}, out{40, 30, 31}, 0)
	check(t, in{Avail: 100, W: 40, AutoL: true, AutoR: true, Edges: 59}, out{40, 0, 1}, 0)
	check(t, in{Avail: 100, W: 40, AutoL: true, AutoR: true, Edges: 60}, out{40, 0, 0}, 0)
	// There is too little room: what is auto is 0.
	check(t, in{Avail: 100, W: 101, AutoL: true, AutoR: true}, out{101, 0, -1}, 0)
	check(t, in{Avail: 100, W: 102, AutoL: true, AutoR: true}, out{102, 0, -2}, 0)
	check(t, in{Avail: 100, W: 90, AutoL: true, Right: 20}, out{90, 0, 10}, 0)
	check(t, in{Avail: 100, W: 90, Left: 20, AutoR: true}, out{90, 20, -10}, 0)
}

func TestAutoIsIgnored(t *testing.T) {
	for _, n := range []int64{least, -top - 1, -7, 0, 7, top, top + 1, most} {
		check(t, in{Avail: 100, W: n, Auto: true, Left: 10, Right: 20}, out{70, 10, 20}, 0)
		check(t, in{Avail: 100, W: 40, Left: n, AutoL: true, Right: 20}, out{40, 40, 20}, 0)
		check(t, in{Avail: 100, W: 40, Left: 10, Right: n, AutoR: true}, out{40, 10, 50}, 0)
		check(t, in{Avail: 100, W: n, Auto: true, Left: n, AutoL: true, Right: n, AutoR: true}, out{100, 0, 0}, 0)
	}
}

func TestLimits(t *testing.T) {
	bound := limits{Least: 30, Most: 60, Bound: true}
	check(t, in{Avail: 100, W: 60, Limits: bound}, out{60, 0, 40}, 0)
	check(t, in{Avail: 100, W: 61, Limits: bound}, out{60, 0, 40}, 0)
	check(t, in{Avail: 100, W: 30, Limits: bound}, out{30, 0, 70}, 0)
	check(t, in{Avail: 100, W: 29, Limits: bound}, out{30, 0, 70}, 0)
	check(t, in{Avail: 100, W: -5, Limits: bound}, out{30, 0, 70}, 0)
	// Without a bound there is no greatest width.
	check(t, in{Avail: 100, W: 90, Limits: limits{Least: 30, Most: 60}}, out{90, 0, 10}, 0)
	check(t, in{Avail: 100, W: 90, Limits: limits{Bound: true}}, out{0, 0, 100}, 0)
	// The least width wins.
	check(t, in{Avail: 100, W: 90, Limits: limits{Least: 60, Most: 30, Bound: true}}, out{60, 0, 40}, 0)
	check(t, in{Avail: 100, W: 10, Limits: limits{Least: 60, Most: 30, Bound: true}}, out{60, 0, 40}, 0)
	check(t, in{Avail: 100, W: 90, Limits: limits{Least: 160, Most: 30, Bound: true}}, out{160, 0, -60}, 0)
}

func TestLimitedAutoWidth(t *testing.T) {
	bound := limits{Least: 30, Most: 60, Bound: true}
	// The margins that are auto are 0 as long as the width is, but not once a limit takes its place.
	check(t, in{Avail: 61, Auto: true, AutoL: true, AutoR: true, Limits: bound}, out{60, 0, 1}, 0)
	check(t, in{Avail: 100, Auto: true, AutoL: true, AutoR: true, Limits: bound}, out{60, 20, 20}, 0)
	check(t, in{Avail: 100, Auto: true, AutoL: true, Right: 5, Limits: bound}, out{60, 35, 5}, 0)
	check(t, in{Avail: 100, Auto: true, Left: 5, AutoR: true, Limits: bound}, out{60, 5, 35}, 0)
	check(t, in{Avail: 60, Auto: true, AutoL: true, AutoR: true, Limits: bound}, out{60, 0, 0}, 0)
	check(t, in{Avail: 20, Auto: true, AutoL: true, AutoR: true, Limits: bound}, out{30, 0, -10}, 0)
	check(t, in{Avail: 20, Auto: true, Left: 5, Right: 5, Limits: bound}, out{30, 5, -15}, 0)
	check(t, in{Avail: -20, Auto: true, AutoL: true, Limits: bound}, out{30, 0, -50}, 0)
	least := limits{Least: 50, Most: 30, Bound: true}
	check(t, in{Avail: 100, Auto: true, AutoL: true, AutoR: true, Limits: least}, out{50, 25, 25}, 0)
	check(t, in{Avail: 100, Auto: true, AutoL: true, AutoR: true, Left: 9, Right: 9, Limits: least}, out{50, 25, 25}, 0)
}

func TestTermsAreLengths(t *testing.T) {
	for _, n := range []int64{least, least + 1, -top - 1, top + 1, most - 1, most} {
		// Every other term is told so that the sums themselves are lengths.
		back := max(-top, min(-n, top))
		check(t, in{Avail: n}, out{}, api.ErrRange)
		check(t, in{Avail: n, Left: -back}, out{}, api.ErrRange)
		check(t, in{Left: back, W: n}, out{}, api.ErrRange)
		check(t, in{Left: back, Edges: n}, out{}, api.ErrRange)
		check(t, in{Left: back, Right: n}, out{}, api.ErrRange)
		check(t, in{Left: n, Right: back}, out{}, api.ErrRange)
		check(t, in{Auto: true, Left: back, Edges: n}, out{}, api.ErrRange)
		check(t, in{Auto: true, Avail: n, Left: -back}, out{}, api.ErrRange)
	}
	check(t, in{Avail: top, W: top}, out{top, 0, 0}, 0)
	check(t, in{Avail: -top, W: -top, Limits: limits{Least: -top}}, out{-top, 0, 0}, 0)
	check(t, in{Avail: top, Left: top, Auto: true}, out{0, top, 0}, 0)
}

func TestSumsAreLengths(t *testing.T) {
	// From the first term on: a sum that comes back to a length is none on its way.
	check(t, in{Left: top, W: 1, Edges: -1}, out{}, api.ErrRange)
	check(t, in{Left: top, W: -1, Edges: 1, Limits: limits{Least: -1}}, out{-1, top, -top}, 0)
	check(t, in{Left: 1, W: top, Right: -1}, out{}, api.ErrRange)
	check(t, in{W: top, Edges: 1, Right: -1}, out{}, api.ErrRange)
	check(t, in{W: -1, Edges: -top, Right: 1, Limits: limits{Least: -1}}, out{}, api.ErrRange)
	check(t, in{Auto: true, Left: 1, Edges: top, Right: -1}, out{}, api.ErrRange)
	// The margin at the right is a term of the sum, even if another one takes its place.
	check(t, in{Avail: top, W: top, Right: 1}, out{}, api.ErrRange)
	check(t, in{Avail: top, W: top, Right: 1, AutoR: true}, out{top, 0, 0}, 0)
	check(t, in{Avail: top, W: top, Right: -1}, out{top, 0, 0}, 0)
	// What there is, less the sum.
	check(t, in{Avail: -1, W: top}, out{}, api.ErrRange)
	check(t, in{Avail: 0, W: top}, out{top, 0, -top}, 0)
	check(t, in{Avail: top, Left: -1}, out{}, api.ErrRange)
	check(t, in{Avail: top, Left: -1, Auto: true}, out{}, api.ErrRange)
	check(t, in{Avail: -1, Left: top, Auto: true}, out{}, api.ErrRange)
	// The width that there is, with the margin before it.
	check(t, in{Avail: top, Left: 1, Right: -1, Auto: true}, out{}, api.ErrRange)
	check(t, in{Avail: top, Left: -1, Right: 1, Auto: true}, out{top, -1, 1}, 0)
}

func TestLimitsAreSolvedByThemselves(t *testing.T) {
	// What was solved first has aborted already.
	check(t, in{Avail: 100, W: top, Edges: 1, Limits: limits{Most: 9, Bound: true}}, out{}, api.ErrRange)
	check(t, in{Avail: 100, W: top + 1, Limits: limits{Most: 9, Bound: true}}, out{}, api.ErrRange)
	check(t, in{Avail: 100, W: 10, Limits: limits{Least: 7, Most: -top - 1, Bound: true}}, out{}, api.ErrRange)
	check(t, in{Avail: 100, W: 10, Limits: limits{Least: 7, Most: least, Bound: true}}, out{}, api.ErrRange)
	check(t, in{Avail: -100, W: 10, Limits: limits{Least: 7, Most: -top, Bound: true}}, out{7, 0, -107}, 0)
	// A limit that is not reached is not looked at.
	check(t, in{Avail: 100, W: 10, Limits: limits{Least: least, Most: most, Bound: true}}, out{10, 0, 90}, 0)
	check(t, in{Avail: 100, W: 10, Limits: limits{Least: 7, Most: least}}, out{10, 0, 90}, 0)
	check(t, in{Avail: 100, W: 10, Limits: limits{Least: top + 1}}, out{}, api.ErrRange)
	check(t, in{Avail: 100, W: 10, Limits: limits{Least: most}}, out{}, api.ErrRange)
	check(t, in{Avail: 100, W: 10, Limits: limits{Least: top}}, out{top, 0, 100 - top}, 0)
	check(t, in{Avail: 100, W: 10, Edges: 1, Limits: limits{Least: top}}, out{}, api.ErrRange)
}

func TestAbortOutsideOfTry(t *testing.T) {
	defer func() {
		if recover() == nil {
			t.Error("no panic")
		}
	}()
	width.Solve(in{Avail: top + 1})
}

func compare(t *testing.T, x in) {
	t.Helper()
	want, e := expected(x)
	check(t, x, want, e)
}

func TestSmall(t *testing.T) {
	small := []int64{-3, 0, 1, 4}
	for flags := range 16 {
		for code := range 4 * 4 * 4 * 4 * 4 * 4 * 4 {
			at := func() int64 {
				n := small[code%4]
				code /= 4
				return n
			}
			x := in{Avail: 3 * at(), W: at(), Left: at(), Right: at(), Edges: at()}
			x.Limits = limits{Least: at(), Most: at()}
			compare(t, flagged(x, flags))
		}
	}
}

func TestEdges(t *testing.T) {
	random := rand.New(rand.NewPCG(15, 1))
	edges := []int64{
		least, -2*top - 1, -top - 1, -top, 1 - top, -top / 2, -1, 0, 0, 0, 1, 2, 100, top / 2, top/2 + 1, top - 1, top, top + 1,
		2 * top, most,
	}
	inner := edges[3 : len(edges)-3]
	for range 400_000 {
		from := edges
		if random.IntN(4) > 0 {
			from = inner
		}
		at := func() int64 { return from[random.IntN(len(from))] }
		x := in{Avail: at(), W: at(), Left: at(), Right: at(), Edges: at()}
		x.Limits = limits{Least: at(), Most: at()}
		compare(t, flagged(x, random.IntN(16)))
	}
}

// P15.2

func TestEquation(t *testing.T) {
	random := rand.New(rand.NewPCG(15, 2))
	for range 200_000 {
		x := in{
			Avail: random.Int64N(4000) - 400, W: random.Int64N(3000), Edges: random.Int64N(300),
			Left: random.Int64N(600) - 200, Right: random.Int64N(600) - 200,
		}
		x.Limits = limits{Least: random.Int64N(1500), Most: random.Int64N(3000)}
		x = flagged(x, random.IntN(16))
		got, e := solve(x)
		if e != 0 || got.Left+got.W+x.Edges+got.Right != x.Avail {
			t.Fatalf("%+v: %v, %d", x, got, e)
		}
		if got.W != x.Limits.Of(got.W) || !x.Auto && got.W != x.Limits.Of(x.W) {
			t.Fatalf("%+v: %v is not within the limits", x, got)
		}
		if !x.AutoL && got.Left != x.Left {
			t.Fatalf("%+v: %v has another left margin", x, got)
		}
		if x.AutoL && x.AutoR {
			room := got.W+x.Edges <= x.Avail
			if room && (got.Right < got.Left || got.Right > got.Left+1) || !room && got.Left != 0 {
				t.Fatalf("%+v: %v is not in the middle", x, got)
			}
		}
	}
}
