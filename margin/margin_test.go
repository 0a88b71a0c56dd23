package margin_test

import (
	"math"
	"math/big"
	"math/rand/v2"
	"testing"

	"clapboard/api"
	"clapboard/fixed"
	"clapboard/margin"
)

const (
	least = math.MinInt64
	most  = math.MaxInt64
	top   = api.MaxLen
)

type margins = margin.Margins

func ints() []int64 {
	return []int64{least, least + 1, -top - 1, -top, 1 - top, -640, -2, -1, 0, 1, 2, 640, top - 1, top, top + 1, most - 1, most}
}

// sum calls what may abort: its result, or the error.
func sum(m margins) (n int64, e api.Errno) {
	e = fixed.Try(func() { n = m.Sum() })
	return n, e
}

func check(t *testing.T, m margins, want int64, wantE api.Errno) {
	t.Helper()
	if got, e := sum(m); got != want || e != wantE {
		t.Errorf("Sum of %v: %d, %d, not %d, %d", m, got, e, want, wantE)
	}
}

// all margins of a list, one by one.
func all(l ...int64) margins {
	var m margins
	for _, n := range l {
		m = m.With(margin.Of(n))
	}
	return m
}

// P16.1

func TestOf(t *testing.T) {
	for _, n := range ints() {
		want := margins{Up: n}
		if n < 0 {
			want = margins{Down: n}
		}
		if got := margin.Of(n); got != want {
			t.Errorf("Of(%d): %v", n, got)
		}
	}
}

func TestWith(t *testing.T) {
	for _, up := range ints() {
		for _, down := range ints() {
			for _, n := range ints() {
				m, o := margins{Up: up, Down: n}, margins{Up: n, Down: down}
				want := m
				if n > up {
					want.Up = n
				}
				if down < n {
					want.Down = down
				}
				if got := m.With(o); got != want {
					t.Errorf("%v with %v: %v", m, o, got)
				}
			}
		}
	}
	if got := margin.Of(5).With(margin.Of(-3)); got != (margins{Up: 5, Down: -3}) {
		t.Error(got)
	}
	if got := (margins{}).With(margins{}); got != (margins{}) {
		t.Error(got)
	}
}

func TestWithLeavesItsOperands(t *testing.T) {
	m, o := margins{Up: 5, Down: -1}, margins{Up: 3, Down: -7}
	m.With(o)
	if m != (margins{Up: 5, Down: -1}) || o != (margins{Up: 3, Down: -7}) {
		t.Error(m, o)
	}
}

func TestSum(t *testing.T) {
	check(t, all(10, 20, -5), 15, 0)
	check(t, margins{}, 0, 0)
	check(t, margins{Up: 7}, 7, 0)
	check(t, margins{Down: -7}, -7, 0)
	check(t, margins{Up: 7, Down: -9}, -2, 0)
	check(t, margins{Up: top}, top, 0)
	check(t, margins{Down: -top}, -top, 0)
	check(t, margins{Up: top, Down: -top}, 0, 0)
	check(t, margins{Up: top + 1}, 0, api.ErrRange)
	check(t, margins{Down: -top - 1}, 0, api.ErrRange)
	// The greatest margin is a length by itself, but the least one only together with it.
	check(t, margins{Up: top + 1, Down: -1}, 0, api.ErrRange)
	check(t, margins{Up: 1, Down: -top - 1}, -top, 0)
	check(t, margins{Up: top, Down: -2 * top}, -top, 0)
	check(t, margins{Up: top, Down: -2*top - 1}, 0, api.ErrRange)
	check(t, margins{Up: most, Down: least}, 0, api.ErrRange)
}

func TestSumAtTheEdges(t *testing.T) {
	length := func(n *big.Int) bool { return n.CmpAbs(big.NewInt(top)) <= 0 }
	for _, up := range ints() {
		for _, down := range ints() {
			first := big.NewInt(up)
			both := new(big.Int).Add(first, big.NewInt(down))
			if length(first) && length(both) {
				check(t, margins{Up: up, Down: down}, both.Int64(), 0)
			} else {
				check(t, margins{Up: up, Down: down}, 0, api.ErrRange)
			}
		}
	}
}

func TestAbortOutsideOfTry(t *testing.T) {
	defer func() {
		if recover() == nil {
			t.Error("no panic")
		}
	}()
	margin.Of(top + 1).Sum()
}

// P16.2

func TestOrderAndNumber(t *testing.T) {
	random := rand.New(rand.NewPCG(16, 2))
	for range 20_000 {
		l := make([]int64, random.IntN(7))
		for i := range l {
			l[i] = random.Int64N(41) - 20
		}
		want := all(l...)
		again := append(append([]int64{}, l...), l[:random.IntN(len(l)+1)]...)
		random.Shuffle(len(again), func(i, j int) { again[i], again[j] = again[j], again[i] })
		cut := random.IntN(len(again) + 1)
		if got := all(again[:cut]...).With(all(again[cut:]...)); got != want {
			t.Fatalf("%v and %v: %v, not %v", l, again, got, want)
		}
		check(t, want, model(l), 0)
	}
}

// model of the resulting margin: by looking for the greatest and the least one.
func model(l []int64) int64 {
	var n int64
	for _, up := range l {
		isGreatest := up > 0
		for _, other := range l {
			isGreatest = isGreatest && other <= up
		}
		if isGreatest {
			n += up
			break
		}
	}
	for _, down := range l {
		isLeast := down < 0
		for _, other := range l {
			isLeast = isLeast && other >= down
		}
		if isLeast {
			n += down
			break
		}
	}
	return n
}

func TestOneSign(t *testing.T) {
	check(t, all(3, 9, 1), 9, 0)
	check(t, all(0, 9, 0), 9, 0)
	check(t, all(-3, -9, -1), -9, 0)
	check(t, all(-3, 0, -3), -3, 0)
	check(t, all(), 0, 0)
	check(t, all(top, top, top), top, 0)
	check(t, all(-top, -top, -top), -top, 0)
}
