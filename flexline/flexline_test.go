package flexline_test

import (
	"math"
	"math/big"
	"math/rand/v2"
	"slices"
	"testing"

	"clapboard/api"
	"clapboard/fixed"
	"clapboard/flexline"
)

const (
	least = math.MinInt64
	most  = math.MaxInt64
	top   = api.MaxLen
)

// lines calls what may abort: its result, or the error.
func lines(sizes []int64, avail, gap int64, wrap bool) (l [][2]int, e api.Errno) {
	e = fixed.Try(func() { l = flexline.Lines(sizes, avail, gap, wrap) })
	return l, e
}

func checkSorted(t *testing.T, orders, want []int) {
	t.Helper()
	if got := flexline.Sorted(orders); !slices.Equal(got, want) {
		t.Errorf("Sorted(%v): %v, not %v", orders, got, want)
	}
}

// check lines that wrap.
func check(t *testing.T, sizes []int64, avail, gap int64, want ...[2]int) {
	t.Helper()
	if got, e := lines(sizes, avail, gap, true); !slices.Equal(got, want) || e != 0 {
		t.Errorf("Lines(%v, %d, %d): %v, %d, not %v", sizes, avail, gap, got, e, want)
	}
}

func checkRange(t *testing.T, sizes []int64, avail, gap int64) {
	t.Helper()
	if got, e := lines(sizes, avail, gap, true); len(got) > 0 || e != api.ErrRange {
		t.Errorf("Lines(%v, %d, %d): %v, %d, not ErrRange", sizes, avail, gap, got, e)
	}
}

// P18.1

func TestSorted(t *testing.T) {
	checkSorted(t, nil, nil)
	checkSorted(t, []int{}, nil)
	checkSorted(t, []int{7}, []int{0})
	checkSorted(t, []int{1, 2, 3}, []int{0, 1, 2})
	checkSorted(t, []int{3, 2, 1}, []int{2, 1, 0})
	checkSorted(t, []int{0, -1, 2, -1, 0}, []int{1, 3, 0, 4, 2})
	checkSorted(t, []int{5, 5, 5, 5}, []int{0, 1, 2, 3})
	// Orders whose difference is no int.
	checkSorted(t, []int{most, least, 0, least, most, -1}, []int{1, 3, 5, 2, 0, 4})
}

// sorted puts each index at the place that the number of those before it tells.
func sorted(orders []int) []int {
	places := make([]int, len(orders))
	for i, order := range orders {
		place := 0
		for j, other := range orders {
			if other < order || other == order && j < i {
				place++
			}
		}
		places[place] = i
	}
	return places
}

func TestSortedRandom(t *testing.T) {
	random := rand.New(rand.NewPCG(18, 1))
	for range 3_000 {
		// Few different orders, so that many are equal; enough of them that a sort that isn't stable shows.
		orders := make([]int, random.IntN(60))
		for i := range orders {
			orders[i] = random.IntN(7) - 3
		}
		kept := slices.Clone(orders)
		checkSorted(t, orders, sorted(orders))
		if !slices.Equal(orders, kept) {
			t.Fatal("the orders have changed:", orders)
		}
	}
	orders := make([]int, api.MaxNodes)
	for i := range orders {
		orders[i] = random.IntN(20)
	}
	checkSorted(t, orders, sorted(orders))
}

// P18.2

func TestExample(t *testing.T) {
	check(t, []int64{40, 40, 40}, 95, 10, [2]int{0, 2}, [2]int{2, 3})
}

func TestNoItems(t *testing.T) {
	for _, wrap := range []bool{false, true} {
		for _, sizes := range [][]int64{nil, {}} {
			if got, e := lines(sizes, least, most, wrap); len(got) > 0 || e != 0 {
				t.Error(got, e)
			}
		}
	}
}

func TestWithoutWrap(t *testing.T) {
	// No sum is computed, so that none is out of range.
	for _, sizes := range [][]int64{{0}, {40, 40, 40}, {top, top, 1}, {most, least}, {top + 1}, {-5, 3}} {
		for _, n := range []int64{least, -1, 0, 95, top + 1, most} {
			got, e := lines(sizes, n, n, false)
			if !slices.Equal(got, [][2]int{{0, len(sizes)}}) || e != 0 {
				t.Errorf("Lines(%v, %d): %v, %d", sizes, n, got, e)
			}
		}
	}
}

func TestWrap(t *testing.T) {
	sizes := []int64{40, 40, 40}
	three := [][2]int{{0, 1}, {1, 2}, {2, 3}}
	check(t, sizes, 140, 10, [2]int{0, 3})
	check(t, sizes, 139, 10, [2]int{0, 2}, [2]int{2, 3})
	check(t, sizes, 90, 10, [2]int{0, 2}, [2]int{2, 3})
	check(t, sizes, 89, 10, three...)
	// The first item of a line is in it even if it is too long.
	check(t, sizes, 39, 10, three...)
	check(t, sizes, 0, 0, three...)
	check(t, sizes, least, 0, three...)
	check(t, sizes, most, 0, [2]int{0, 3})
	check(t, []int64{40}, 39, 10, [2]int{0, 1})
	check(t, []int64{10, 99, 10, 10, 10}, 30, 0, [2]int{0, 1}, [2]int{1, 2}, [2]int{2, 5})
	// There is a gap between two items only: none before the first, none after the last.
	check(t, []int64{10, 10, 10, 10}, 25, 5, [2]int{0, 2}, [2]int{2, 4})
	check(t, []int64{10, 10, 10, 10}, 24, 5, [2]int{0, 1}, [2]int{1, 2}, [2]int{2, 3}, [2]int{3, 4})
	check(t, []int64{0, 0, 0}, 0, 0, [2]int{0, 3})
	check(t, []int64{0, 0, 0}, 0, 1, three...)
	check(t, []int64{0, 0, 0}, 1, 1, [2]int{0, 2}, [2]int{2, 3})
}

func TestWrapBelowZero(t *testing.T) {
	// A line ends at the first item that it has no room for, even if there is room with another one.
	check(t, []int64{40, 40, -50, 10}, 70, 0, [2]int{0, 1}, [2]int{1, 4})
	check(t, []int64{40, 20, -50, 50}, 60, 0, [2]int{0, 4})
	check(t, []int64{40, 20, -50, 51}, 60, 0, [2]int{0, 3}, [2]int{3, 4})
	check(t, []int64{40, 40, 40}, 60, -30, [2]int{0, 3})
	check(t, []int64{-5, -5}, -10, 0, [2]int{0, 2})
	check(t, []int64{-5, -5}, -11, 0, [2]int{0, 1}, [2]int{1, 2})
}

func TestSumsAreLengths(t *testing.T) {
	// That of a single item, with or without room for it, at the beginning of any line.
	for _, avail := range []int64{least, 0, top, most} {
		for _, n := range []int64{least, -top - 1, top + 1, most} {
			checkRange(t, []int64{n}, avail, 0)
		}
		check(t, []int64{top}, avail, most, [2]int{0, 1})
		check(t, []int64{-top}, avail, least, [2]int{0, 1})
	}
	checkRange(t, []int64{-5, top + 6}, 0, 0)
	checkRange(t, []int64{-5, top + 5}, 0, 0)
	checkRange(t, []int64{-5, 5, top + 1}, 0, 0)
	check(t, []int64{-5, top + 5}, top, 0, [2]int{0, 2})
	check(t, []int64{5, -top - 5}, 0, 0, [2]int{0, 2})
	// With one more item, even if there is no room for it.
	checkRange(t, []int64{1, top}, 10, 0)
	check(t, []int64{1, top - 1}, 10, 0, [2]int{0, 1}, [2]int{1, 2})
	checkRange(t, []int64{-1, -top}, 10, 0)
	checkRange(t, []int64{top, top}, most, 0)
	// With the gap alone, even if the next item makes up for it.
	checkRange(t, []int64{top, -5}, most, 1)
	check(t, []int64{top, -5}, most, 0, [2]int{0, 2})
	checkRange(t, []int64{1, 1}, 10, top)
	check(t, []int64{1, 0}, 10, top-1, [2]int{0, 1}, [2]int{1, 2})
	checkRange(t, []int64{-top, 5}, most, -1)
	checkRange(t, []int64{1, 1}, 10, most)
	checkRange(t, []int64{1, 1}, 10, least)
	// The sum begins anew with each line.
	check(t, []int64{top, 0, top}, 0, 0, [2]int{0, 1}, [2]int{1, 2}, [2]int{2, 3})
	check(t, []int64{top, -top, top}, top, 0, [2]int{0, 3})
}

func TestAbortOutsideOfTry(t *testing.T) {
	defer func() {
		if recover() == nil {
			t.Error("no panic")
		}
	}()
	flexline.Lines([]int64{top + 1}, 0, 0, true)
}

func TestArgumentsAndResults(t *testing.T) {
	sizes := []int64{40, 40, 40, 40}
	first, _ := lines(sizes[:3], 95, 10, true)
	again, _ := lines(sizes[:3], 95, 10, true)
	again[0] = [2]int{7, 7}
	if !slices.Equal(first, [][2]int{{0, 2}, {2, 3}}) || !slices.Equal(sizes, []int64{40, 40, 40, 40}) {
		t.Error(first, sizes)
	}
}

// filled says line by line, with each sum computed anew in numbers without an end, what Lines does with wrap.
func filled(sizes []int64, avail, gap int64) ([][2]int, bool) {
	var l [][2]int
	for from, to := 0, 1; from < len(sizes); to++ {
		sum, ok := length(sizes[from:to], gap)
		if !ok {
			return nil, false
		}
		if to-from > 1 && sum > avail {
			l = append(l, [2]int{from, to - 1})
			from, to = to-1, to-1
		} else if to == len(sizes) {
			return append(l, [2]int{from, to}), true
		}
	}
	return l, true
}

// length of a line, if each partial sum is one.
func length(sizes []int64, gap int64) (int64, bool) {
	sum, end := new(big.Int), big.NewInt(top)
	for i, size := range sizes {
		if i > 0 && sum.Add(sum, big.NewInt(gap)).CmpAbs(end) > 0 {
			return 0, false
		}
		if sum.Add(sum, big.NewInt(size)).CmpAbs(end) > 0 {
			return 0, false
		}
	}
	return sum.Int64(), true
}

// compare with the model: whether it was in range.
func compare(t *testing.T, sizes []int64, avail, gap int64) bool {
	t.Helper()
	want, ok := filled(sizes, avail, gap)
	if ok {
		check(t, sizes, avail, gap, want...)
	} else {
		checkRange(t, sizes, avail, gap)
	}
	return ok
}

func TestRandom(t *testing.T) {
	random := rand.New(rand.NewPCG(18, 2))
	edges := []int64{least, -top - 1, -top, 1 - top, -top / 2, -1, 0, 0, 0, 1, 1, 2, 3, top / 3, top / 2, top/2 + 1, top - 1, top, top + 1, most}
	wild, inRange := 0, 0
	for i := range 100_000 {
		number := func() int64 { return random.Int64N(50) - 10 }
		avail := random.Int64N(120) - 10
		if i%2 == 0 {
			number = func() int64 { return edges[random.IntN(len(edges))] }
			avail = number()
		}
		sizes := make([]int64, random.IntN(9))
		for j := range sizes {
			sizes[j] = number()
		}
		good := compare(t, sizes, avail, number())
		if i%2 == 0 {
			wild++
			if good {
				inRange++
			}
		}
	}
	if inRange < wild/20 || inRange > wild*19/20 {
		t.Errorf("%d of %d are in range: too few of one kind", inRange, wild)
	}
}

// P18.3

func TestLinesAreFull(t *testing.T) {
	random := rand.New(rand.NewPCG(18, 3))
	for range 50_000 {
		sizes := make([]int64, 1+random.IntN(12))
		for i := range sizes {
			sizes[i] = random.Int64N(40)
		}
		avail, gap := random.Int64N(150)-10, random.Int64N(12)
		l, e := lines(sizes, avail, gap, true)
		if e != 0 || l[0][0] != 0 || l[len(l)-1][1] != len(sizes) {
			t.Fatalf("Lines(%v, %d, %d): %v, %d", sizes, avail, gap, l, e)
		}
		for i, x := range l {
			if sum, _ := length(sizes[x[0]:x[1]], gap); x[1] <= x[0] || x[1]-x[0] > 1 && sum > avail {
				t.Fatalf("Lines(%v, %d, %d): %v, the line %v is too long", sizes, avail, gap, l, x)
			}
			if x[1] == len(sizes) {
				continue
			}
			if sum, _ := length(sizes[x[0]:x[1]+1], gap); sum <= avail || l[i+1][0] != x[1] {
				t.Fatalf("Lines(%v, %d, %d): %v, the line %v has room", sizes, avail, gap, l, x)
			}
		}
	}
}
