package line_test

import (
	"math"
	"math/rand/v2"
	"slices"
	"testing"

	"clapboard/api"
	"clapboard/fixed"
	"clapboard/line"
	"clapboard/share"
)

const (
	least = math.MinInt64
	most  = math.MaxInt64
	top   = api.MaxLen
)

type item = line.Item

// fill calls what may abort: its result, or the error.
func fill(l []item, avail, low int64) (lines []line.Line, e api.Errno) {
	e = fixed.Try(func() { lines = line.Fill(l, avail, low) })
	return lines, e
}

func offsets(l []item, x line.Line, avail int64, text int) (list []int64, e api.Errno) {
	e = fixed.Try(func() { list = line.Offsets(l, x, avail, text) })
	return list, e
}

func widths(l []item) (low, high int64, lowE, highE api.Errno) {
	lowE = fixed.Try(func() { low = line.Least(l) })
	highE = fixed.Try(func() { high = line.Most(l) })
	return low, high, lowE, highE
}

func checkFill(t *testing.T, l []item, avail, low int64, want []line.Line, e api.Errno) {
	t.Helper()
	if got, gotE := fill(l, avail, low); !slices.Equal(got, want) || gotE != e {
		t.Errorf("Fill(%v, %d, %d): %v, %d, not %v, %d", l, avail, low, got, gotE, want, e)
	}
}

func checkOffsets(t *testing.T, l []item, x line.Line, avail int64, text int, want []int64, e api.Errno) {
	t.Helper()
	if got, gotE := offsets(l, x, avail, text); !slices.Equal(got, want) || gotE != e {
		t.Errorf("Offsets(%v, %v, %d, %d): %v, %d, not %v, %d", l, x, avail, text, got, gotE, want, e)
	}
}

func checkWidths(t *testing.T, l []item, low, high int64, lowE, highE api.Errno) {
	t.Helper()
	if a, b, aE, bE := widths(l); a != low || b != high || aE != lowE || bE != highE {
		t.Errorf("Least and Most of %v: %d, %d, errors %d, %d, not %d, %d, errors %d, %d", l, a, b, aE, bE, low, high, lowE, highE)
	}
}

// example: the items of the document's example.
func example() []item {
	return []item{{W: 30, Space: 5, H: 1, Break: true}, {W: 30, Space: 5, H: 2, Break: true}, {W: 30, Space: 5, H: 3, Break: true}}
}

// sum says of numbers what their sum is, if each partial sum is a length; no two lengths have a sum that wraps.
func sum(l []int64) (int64, bool) {
	var all int64
	for _, n := range l {
		if n < -top || n > top {
			// A length and a number that is none can give a length.
			if n < -4*top || n > 4*top {
				return 0, false
			}
		}
		all += n
		if all < -top || all > top {
			return 0, false
		}
	}
	return all, true
}

// width says of consecutive items how wide they are.
func width(l []item) (int64, bool) {
	var numbers []int64
	for i, x := range l {
		numbers = append(numbers, x.W)
		if i+1 < len(l) {
			numbers = append(numbers, x.Space)
		}
	}
	return sum(numbers)
}

// ends of the segments.
func ends(l []item) []int {
	var list []int
	for i, x := range l {
		if x.Break || i+1 == len(l) {
			list = append(list, i+1)
		}
	}
	return list
}

// filled says line by line, with each width computed anew, what Fill does.
func filled(l []item, avail, low int64) ([]line.Line, api.Errno) {
	var lines []line.Line
	from := 0
	for from < len(l) {
		x := line.Line{From: from, To: from, H: low}
		for _, to := range ends(l) {
			if to <= from {
				continue
			}
			w, is := width(l[from:to])
			if !is {
				return nil, api.ErrRange
			}
			if x.To > from && w > avail {
				break
			}
			x.To, x.W = to, w
		}
		for _, y := range l[from:x.To] {
			x.H = max(x.H, y.H)
		}
		lines = append(lines, x)
		from = x.To
	}
	return lines, api.OK
}

// narrowest says how wide the widest segment is.
func narrowest(l []item) (int64, api.Errno) {
	var list []int64
	from := 0
	for _, to := range ends(l) {
		w, is := width(l[from:to])
		if !is {
			return 0, api.ErrRange
		}
		list = append(list, w)
		from = to
	}
	if len(list) == 0 {
		return 0, api.OK
	}
	return slices.Max(list), api.OK
}

// random items: widths and spaces from low on, below high.
func random(r *rand.Rand, n int, low, high int64) []item {
	l := make([]item, n)
	for i := range l {
		l[i] = item{W: low + r.Int64N(high-low), Space: low + r.Int64N(high-low), H: r.Int64N(40) - 10, Break: r.IntN(3) > 0}
	}
	return l
}

// P13.1

func TestFillExample(t *testing.T) {
	l := example()
	checkFill(t, l, 70, 0, []line.Line{{From: 0, To: 2, W: 65, H: 2}, {From: 2, To: 3, W: 30, H: 3}}, api.OK)
	checkFill(t, l, 65, 0, []line.Line{{From: 0, To: 2, W: 65, H: 2}, {From: 2, To: 3, W: 30, H: 3}}, api.OK)
	checkFill(t, l, 64, 2, []line.Line{{From: 0, To: 1, W: 30, H: 2}, {From: 1, To: 2, W: 30, H: 2}, {From: 2, To: 3, W: 30, H: 3}}, api.OK)
	checkFill(t, l, 100, 7, []line.Line{{From: 0, To: 3, W: 100, H: 7}}, api.OK)
	checkFill(t, l, 99, 7, []line.Line{{From: 0, To: 2, W: 65, H: 7}, {From: 2, To: 3, W: 30, H: 7}}, api.OK)
}

func TestFillNothing(t *testing.T) {
	for _, avail := range []int64{least, -1, 0, 1, most} {
		checkFill(t, nil, avail, avail, nil, api.OK)
		checkFill(t, []item{}, avail, avail, nil, api.OK)
	}
}

// A line has at least a segment, whatever room there is.
func TestFillNoRoom(t *testing.T) {
	for _, avail := range []int64{least, -top - 1, -1, 0, 29} {
		want := []line.Line{{From: 0, To: 1, W: 30, H: 1}, {From: 1, To: 2, W: 30, H: 2}, {From: 2, To: 3, W: 30, H: 3}}
		checkFill(t, example(), avail, 0, want, api.OK)
	}
}

// Only whole segments are put into a line, and the last one needs no end.
func TestFillSegments(t *testing.T) {
	l := []item{{W: 10}, {W: 10, Space: 4, Break: true}, {W: 10, Space: 1}, {W: 10, Space: 9}}
	checkFill(t, l, 35, 0, []line.Line{{From: 0, To: 2, W: 20}, {From: 2, To: 4, W: 21}}, api.OK)
	checkFill(t, l, 44, 0, []line.Line{{From: 0, To: 2, W: 20}, {From: 2, To: 4, W: 21}}, api.OK)
	checkFill(t, l, 45, 0, []line.Line{{From: 0, To: 4, W: 45}}, api.OK)
	checkFill(t, l, 5, 0, []line.Line{{From: 0, To: 2, W: 20}, {From: 2, To: 4, W: 21}}, api.OK)
	for i := range l {
		l[i].Break = false
	}
	checkFill(t, l, 5, 0, []line.Line{{From: 0, To: 4, W: 45}}, api.OK)
}

// low is the least height, even below 0; heights are compared and never added up.
func TestFillHeights(t *testing.T) {
	l := []item{{H: -5}, {H: -7, Break: true}}
	checkFill(t, l, 0, -6, []line.Line{{To: 2, H: -5}}, api.OK)
	checkFill(t, l, 0, -5, []line.Line{{To: 2, H: -5}}, api.OK)
	checkFill(t, l, 0, 3, []line.Line{{To: 2, H: 3}}, api.OK)
	checkFill(t, l, 0, least, []line.Line{{To: 2, H: -5}}, api.OK)
	checkFill(t, l, 0, most, []line.Line{{To: 2, H: most}}, api.OK)
	checkFill(t, []item{{H: most}, {H: most}}, 0, 0, []line.Line{{To: 2, H: most}}, api.OK)
}

func TestFillAborts(t *testing.T) {
	far := []item{{W: top, Space: 1, Break: true}, {W: 0, Space: 0, Break: true}}
	// The width of both is no length, although the first line alone has one.
	checkFill(t, far, top, 0, nil, api.ErrRange)
	checkFill(t, far, 5, 0, nil, api.ErrRange)
	checkFill(t, far[:1], 5, 0, []line.Line{{To: 1, W: top}}, api.OK)
	// A later item would bring the sum back.
	checkFill(t, []item{{W: top, Space: 1}, {W: -1}}, 0, 0, nil, api.ErrRange)
	checkFill(t, []item{{W: top}, {W: 1}, {W: -1}}, 0, 0, nil, api.ErrRange)
	checkFill(t, []item{{W: top, Space: -1}, {W: 1}}, 0, 0, []line.Line{{To: 2, W: top}}, api.OK)
	checkFill(t, []item{{W: -top, Space: 1}, {W: -1}}, 0, 0, []line.Line{{To: 2, W: -top}}, api.OK)
	for _, n := range []int64{top + 1, -top - 1, most, least} {
		checkFill(t, []item{{W: n}}, 0, 0, nil, api.ErrRange)
		checkFill(t, []item{{W: 0, Space: n}, {W: -n}}, 0, 0, nil, api.ErrRange)
		// The space behind all of them is none of a width.
		checkFill(t, []item{{W: 3, Space: n}}, 0, 0, []line.Line{{To: 1, W: 3}}, api.OK)
	}
}

func TestFillAll(t *testing.T) {
	r := rand.New(rand.NewPCG(13, 1))
	for range 20000 {
		low, high := int64(0), int64(12)
		switch r.IntN(4) {
		case 0:
			low = -6
		case 1:
			low, high = -top/2, top/2
		}
		l := random(r, r.IntN(12), low, high)
		avail := 4*low + r.Int64N(4*(high-low)+1)
		lines, e := filled(l, avail, 5)
		checkFill(t, l, avail, 5, lines, e)
	}
}

// P13.2

func TestOffsetsText(t *testing.T) {
	l := []item{{W: 30, Space: 5, Break: true}, {W: 20, Space: 7, Break: true}, {W: 10, Space: 2, Break: true}, {W: 9}}
	x := line.Line{From: 0, To: 3, W: 72}
	for _, text := range []int{1, 0, -1, 5, math.MinInt, math.MaxInt} {
		checkOffsets(t, l, x, 100, text, []int64{0, 35, 62}, api.OK)
		checkOffsets(t, l, x, 50, text, []int64{0, 35, 62}, api.OK)
	}
	checkOffsets(t, l, x, 100, 2, []int64{28, 63, 90}, api.OK)
	checkOffsets(t, l, x, 72, 2, []int64{0, 35, 62}, api.OK)
	checkOffsets(t, l, x, 70, 2, []int64{-2, 33, 60}, api.OK)
	checkOffsets(t, l, x, 101, 3, []int64{14, 49, 76}, api.OK)
	checkOffsets(t, l, x, 100, 3, []int64{14, 49, 76}, api.OK)
	checkOffsets(t, l, x, 71, 3, []int64{-1, 34, 61}, api.OK)
	checkOffsets(t, l, x, 70, 3, []int64{-1, 34, 61}, api.OK)
	checkOffsets(t, l, x, 101, 4, []int64{0, 49, 91}, api.OK)
	checkOffsets(t, l, x, 73, 4, []int64{0, 35, 63}, api.OK)
	checkOffsets(t, l, x, 72, 4, []int64{0, 35, 62}, api.OK)
	checkOffsets(t, l, x, 50, 4, []int64{0, 35, 62}, api.OK)
}

// The last line isn't justified, and neither is one without a gap.
func TestOffsetsLastLine(t *testing.T) {
	l := example()
	checkOffsets(t, l, line.Line{From: 0, To: 3, W: 100}, 200, 4, []int64{0, 35, 70}, api.OK)
	checkOffsets(t, l, line.Line{From: 1, To: 3, W: 65}, 200, 4, []int64{0, 35}, api.OK)
	checkOffsets(t, l, line.Line{From: 1, To: 2, W: 30}, 200, 4, []int64{0}, api.OK)
	checkOffsets(t, l, line.Line{From: 0, To: 2, W: 65}, 200, 4, []int64{0, 170}, api.OK)
	checkOffsets(t, l, line.Line{From: 2, To: 3, W: 30}, 200, 2, []int64{170}, api.OK)
	checkOffsets(t, l, line.Line{From: 2, To: 3, W: 30}, 201, 3, []int64{85}, api.OK)
}

func TestOffsetsNoLine(t *testing.T) {
	l := example()
	bad := [][2]int{
		{-1, 2}, {0, 4}, {0, 0}, {2, 2}, {3, 3}, {2, 1}, {3, 4}, {4, 5}, {-2, -1}, {math.MinInt, 2}, {0, math.MaxInt},
		{math.MaxInt, math.MinInt}, {math.MinInt, math.MaxInt}, {1, -1},
	}
	for _, b := range bad {
		for text := range 6 {
			// Beside no line not even the room is looked at.
			for _, avail := range []int64{least, 0, 100, most} {
				checkOffsets(t, l, line.Line{From: b[0], To: b[1], W: 1}, avail, text, nil, api.OK)
			}
		}
	}
	checkOffsets(t, nil, line.Line{}, 100, 1, nil, api.OK)
	checkOffsets(t, nil, line.Line{To: 1}, 100, 4, nil, api.OK)
}

// What is free is told by the W that the line has, not by its items.
func TestOffsetsFree(t *testing.T) {
	l := example()
	for text := range 6 {
		x := line.Line{From: 0, To: 2, W: -1}
		checkOffsets(t, l, x, top, text, nil, api.ErrRange)
		checkOffsets(t, l, line.Line{From: 0, To: 2, W: 1}, -top, text, nil, api.ErrRange)
		checkOffsets(t, l, line.Line{From: 0, To: 2, W: most}, least, text, nil, api.ErrRange)
		checkOffsets(t, l, line.Line{From: 0, To: 2, W: least}, most, text, nil, api.ErrRange)
		checkOffsets(t, l, line.Line{From: 0, To: 2, W: least}, 0, text, nil, api.ErrRange)
	}
	checkOffsets(t, l, line.Line{From: 0, To: 2, W: 10}, 20, 2, []int64{10, 45}, api.OK)
	checkOffsets(t, l, line.Line{From: 0, To: 2, W: most}, most, 2, []int64{0, 35}, api.OK)
	checkOffsets(t, l, line.Line{From: 0, To: 1, W: most}, most-top, 2, []int64{-top}, api.OK)
	checkOffsets(t, l, line.Line{From: 0, To: 1, W: least}, least+top, 2, []int64{top}, api.OK)
	checkOffsets(t, l, line.Line{From: 0, To: 1}, -top, 3, []int64{-top / 2}, api.OK)
}

func TestOffsetsAborts(t *testing.T) {
	// The last offset is a length, and its own width is not added.
	checkOffsets(t, []item{{W: top - 1, Space: 1}, {W: 9}}, line.Line{To: 2}, 0, 1, []int64{0, top}, api.OK)
	checkOffsets(t, []item{{W: top - 1, Space: 2}, {W: 9}}, line.Line{To: 2}, 0, 1, nil, api.ErrRange)
	checkOffsets(t, []item{{W: top - 1, Space: 1}, {W: 9}}, line.Line{To: 2}, 1, 2, nil, api.ErrRange)
	checkOffsets(t, []item{{W: top + 1, Space: -1}, {W: 9}}, line.Line{To: 2}, 0, 1, nil, api.ErrRange)
	checkOffsets(t, []item{{W: top + 1, Space: -1}, {W: 9}}, line.Line{To: 2}, -1, 2, []int64{-1, top - 1}, api.OK)
	// The space, and only then the gap: the sum of the space and the offset is no length.
	checkOffsets(t, []item{{W: -top, Space: -1}, {W: 9}, {W: 9}}, line.Line{To: 2}, 9, 4, nil, api.ErrRange)
	checkOffsets(t, []item{{W: -top, Space: 0}, {W: 9}, {W: 9}}, line.Line{To: 2}, 9, 4, []int64{0, 9 - top}, api.OK)
	checkOffsets(t, []item{{W: top, Space: 0}, {W: 9}, {W: 9}}, line.Line{To: 2}, 1, 4, nil, api.ErrRange)
	for _, n := range []int64{most, least, 2*top + 1} {
		checkOffsets(t, []item{{W: n}, {W: 9}}, line.Line{To: 2}, 0, 1, nil, api.ErrRange)
		checkOffsets(t, []item{{Space: n}, {W: 9}}, line.Line{To: 2}, 0, 1, nil, api.ErrRange)
		checkOffsets(t, []item{{}, {W: n, Space: n}}, line.Line{To: 2}, 0, 1, []int64{0, 0}, api.OK)
	}
}

// More gaps than there can be parts of a length.
func TestOffsetsTooManyGaps(t *testing.T) {
	for _, n := range []int{api.MaxItems, api.MaxItems + 1} {
		l := make([]item, n+1)
		list, e := offsets(l, line.Line{To: n}, 3*int64(n-1), 4)
		if e != api.OK || len(list) != n || list[1] != 3 || list[n-1] != 3*int64(n-1) {
			t.Errorf("of %d: %d offsets, error %d", n, len(list), e)
		}
	}
	n := api.MaxItems + 2
	l := make([]item, n+1)
	checkOffsets(t, l, line.Line{To: n}, 1, 4, nil, api.ErrCount)
	checkOffsets(t, l, line.Line{To: n}, 0, 4, make([]int64, n), api.OK)
	checkOffsets(t, l[:n], line.Line{To: n}, 1, 4, make([]int64, n), api.OK)
	checkOffsets(t, l, line.Line{To: n}, 1, 1, make([]int64, n), api.OK)
}

// placed says what Offsets does with a line of the items.
func placed(l []item, x line.Line, avail int64, text int) ([]int64, api.Errno) {
	free, is := sum([]int64{avail - x.W})
	if !is {
		return nil, api.ErrRange
	}
	gaps, n := make([]int64, len(l)), x.To-x.From
	if text == 4 && free > 0 && x.To < len(l) {
		gaps, _ = share.Even(free, n-1)
	}
	list := []int64{map[int]int64{2: free, 3: (free - free&1) / 2}[text]}
	for i := range n - 1 {
		offset, is := sum([]int64{list[i], l[x.From+i].W, l[x.From+i].Space, gaps[i]})
		if !is {
			return nil, api.ErrRange
		}
		list = append(list, offset)
	}
	return list, api.OK
}

func TestOffsetsAll(t *testing.T) {
	r := rand.New(rand.NewPCG(13, 2))
	for range 20000 {
		low, high := int64(0), int64(12)
		switch r.IntN(4) {
		case 0:
			low = -6
		case 1:
			low, high = -top/2, top/2
		}
		l := random(r, 1+r.IntN(9), low, high)
		x := line.Line{From: r.IntN(len(l)), W: low + r.Int64N(4*(high-low))}
		x.To = x.From + 1 + r.IntN(len(l)-x.From)
		avail, text := 2*low+r.Int64N(4*(high-low)), r.IntN(6)
		want, e := placed(l, x, avail, text)
		checkOffsets(t, l, x, avail, text, want, e)
	}
}

// The filled lines, justified, end where the room ends, but for the last one.
func TestOffsetsOfFilled(t *testing.T) {
	r := rand.New(rand.NewPCG(13, 3))
	for range 2000 {
		l := random(r, 1+r.IntN(20), 0, 20)
		avail := r.Int64N(100)
		lines, _ := fill(l, avail, 0)
		for _, x := range lines {
			list, e := offsets(l, x, avail, 4)
			if e != api.OK || len(list) != x.To-x.From {
				t.Fatalf("Offsets(%v, %v, %d, 4): %v, %d", l, x, avail, list, e)
			}
			last := list[len(list)-1] + l[x.To-1].W
			if want := max(x.W, avail); x.To < len(l) && len(list) > 1 && last != want {
				t.Errorf("Offsets(%v, %v, %d, 4): %v ends at %d, not %d", l, x, avail, list, last, want)
			}
			if x.To == len(l) && last != x.W {
				t.Errorf("Offsets(%v, %v, %d, 4): %v ends at %d, not %d", l, x, avail, list, last, x.W)
			}
		}
	}
}

// P13.3

func TestWidths(t *testing.T) {
	checkWidths(t, nil, 0, 0, 0, 0)
	checkWidths(t, []item{}, 0, 0, 0, 0)
	checkWidths(t, example(), 30, 100, 0, 0)
	l := []item{{W: 10, Space: 3}, {W: 20, Space: 4, Break: true}, {W: 5, Space: 1}, {W: 6, Space: 9}}
	checkWidths(t, l, 33, 49, 0, 0)
	l[1].Break = false
	checkWidths(t, l, 49, 49, 0, 0)
	l[0].Break, l[2].Break = true, true
	checkWidths(t, l, 29, 49, 0, 0)
	checkWidths(t, []item{{W: 5, Break: true}, {W: 7, Break: true}, {W: 6, Break: true}}, 7, 18, 0, 0)
}

// The greatest of widths below 0 is below 0.
func TestWidthsNegative(t *testing.T) {
	checkWidths(t, []item{{W: -5, Break: true}, {W: -3, Break: true}, {W: -4}}, -3, -12, 0, 0)
	checkWidths(t, []item{{W: -5, Space: 2}}, -5, -5, 0, 0)
	checkWidths(t, []item{{W: -5, Space: 8}, {W: 1}}, 4, 4, 0, 0)
}

func TestWidthsAbort(t *testing.T) {
	wide := []item{{W: top, Break: true}, {W: top, Break: true}}
	checkWidths(t, wide, top, 0, 0, api.ErrRange)
	checkWidths(t, []item{{W: top, Space: 1, Break: true}, {W: -1}}, top, 0, 0, api.ErrRange)
	checkWidths(t, []item{{W: top, Space: 1}, {W: -1}}, 0, 0, api.ErrRange, api.ErrRange)
	checkWidths(t, []item{{W: 1, Break: true}, {W: top, Space: -1}, {W: 2}}, 0, 0, api.ErrRange, api.ErrRange)
	for _, n := range []int64{top + 1, -top - 1, most, least} {
		checkWidths(t, []item{{W: n}}, 0, 0, api.ErrRange, api.ErrRange)
		checkWidths(t, []item{{W: 0, Break: true}, {W: 0, Space: n}, {W: 0}}, 0, 0, api.ErrRange, api.ErrRange)
		checkWidths(t, []item{{W: 2, Space: n}}, 2, 2, 0, 0)
	}
	checkWidths(t, []item{{W: 0, Space: top + 1}, {W: -1}}, 0, 0, api.ErrRange, api.ErrRange)
}

func TestWidthsAll(t *testing.T) {
	r := rand.New(rand.NewPCG(13, 4))
	for range 20000 {
		low, high := int64(0), int64(12)
		switch r.IntN(4) {
		case 0:
			low = -6
		case 1:
			low, high = -top/2, top/2
		}
		l := random(r, r.IntN(9), low, high)
		narrow, e := narrowest(l)
		wide, is := width(l)
		wideE := api.OK
		if !is {
			wideE = api.ErrRange
		}
		checkWidths(t, l, narrow, wide, e, wideE)
	}
}

// P13.4

func TestConsequences(t *testing.T) {
	r := rand.New(rand.NewPCG(13, 5))
	for range 5000 {
		l := random(r, 1+r.IntN(12), 0, 15)
		avail := r.Int64N(120)
		lines, e := fill(l, avail, 0)
		low, high, _, _ := widths(l)
		if e != api.OK || avail >= high && len(lines) != 1 {
			t.Fatalf("Fill(%v, %d): %v, %d", l, avail, lines, e)
		}
		to := 0
		for _, x := range lines {
			several := slices.ContainsFunc(l[x.From:x.To-1], func(i item) bool { return i.Break })
			if x.From != to || several && x.W > avail || x.W > max(avail, low) {
				t.Errorf("Fill(%v, %d): %v", l, avail, lines)
			}
			to = x.To
			if to < len(l) {
				next := to + slices.IndexFunc(append(l[to:len(l):len(l)], item{Break: true}), func(i item) bool { return i.Break }) + 1
				if w, _ := width(l[x.From:min(next, len(l))]); w <= avail {
					t.Errorf("Fill(%v, %d): %v, and the line from %d on has room", l, avail, lines, x.From)
				}
			}
		}
		if to != len(l) {
			t.Errorf("Fill(%v, %d): %v", l, avail, lines)
		}
	}
}

// The items are neither changed, nor what lies behind them, nor kept, and no two results share memory.
func TestOwnMemory(t *testing.T) {
	r := rand.New(rand.NewPCG(13, 6))
	all := random(r, 12, 0, 9)
	before := slices.Clone(all)
	l := all[:8]
	lines, _ := fill(l, 20, 0)
	again, _ := fill(l, 20, 0)
	for text := 1; text <= 4; text++ {
		x := line.Line{From: 0, To: 4, W: 5}
		list, _ := offsets(l, x, 40, text)
		other, _ := offsets(l, x, 40, text)
		list[1] = 1000
		if other[1] == 1000 {
			t.Error("two results share memory")
		}
	}
	widths(l)
	if !slices.Equal(all, before) {
		t.Errorf("the items: %v, not %v", all, before)
	}
	lines[0].W = 1000
	if again[0].W == 1000 {
		t.Error("two results share memory")
	}
}

func TestOutsideTry(t *testing.T) {
	far := []item{{W: top}, {W: 1}, {W: 1}}
	calls := []func(){
		func() { line.Fill(far, 0, 0) },
		func() { line.Offsets(far, line.Line{To: 3}, 0, 1) },
		func() { line.Least(far) },
		func() { line.Most(far) },
	}
	for i, call := range calls {
		func() {
			defer func() {
				if recover() == nil {
					t.Errorf("call %d does not panic outside of Try", i)
				}
			}()
			call()
		}()
	}
}
