package style_test

import (
	"math"
	"math/big"
	"slices"
	"testing"

	"clapboard/api"
	"clapboard/fixed"
	"clapboard/ratio"
	"clapboard/style"
	"clapboard/value"
)

const (
	least = math.MinInt64
	most  = math.MaxInt64
	// top is the greatest number of 64ths of a style pixel.
	top = 1 << 30
)

var (
	nan   = math.NaN()
	inf   = math.Inf(1)
	minus = math.Copysign(0, -1)
)

// nans differ in their bits, one has the sign bit set, and one signals.
func nans() []float64 {
	return []float64{
		nan, math.Float64frombits(0xfff8000000000001), math.Float64frombits(0x7ff0000000000001),
		math.Float64frombits(math.MaxUint64),
	}
}

// lined is the default style with a line on each side.
func lined() style.Raw {
	r := style.Default()
	r.Lines = [4]bool{true, true, true, true}
	return r
}

func computed(t *testing.T, r style.Raw) style.Style {
	t.Helper()
	s, e := style.Compute(r)
	if e != api.OK {
		t.Fatalf("Compute(%v): %d", r, e)
	}
	return s
}

func checkError(t *testing.T, r style.Raw, e api.Errno) {
	t.Helper()
	if got, gotE := style.Compute(r); got != (style.Style{}) || gotE != e {
		t.Errorf("Compute(%v): %v, %d, not the error %d", r, got, gotE, e)
	}
}

// The rows of the document's tables.

func mayOf(i int) int {
	const mayAuto, mayNone, mayPct, mayNeg = 1, 2, 4, 8
	switch {
	case i <= 3, i == 18:
		return mayAuto + mayPct
	case i <= 5:
		return mayNone + mayPct
	case i <= 9, i >= 14:
		return mayAuto + mayPct + mayNeg
	}
	return mayPct
}

type numberRow struct {
	parts, low, high int64
	forNaN           int64
	e                api.Errno
}

func numberRows() [10]numberRow {
	pixels := numberRow{parts: 64, high: top, e: api.ErrNaN}
	factor := numberRow{parts: 4096, high: 4096000, e: api.ErrNaN}
	return [10]numberRow{
		pixels, pixels, pixels, pixels, {parts: 1, low: -1000, high: 1000}, factor, factor, pixels, pixels,
		{parts: 64, high: top, forNaN: 1280},
	}
}

func wordRows() [12][2]int {
	return [12][2]int{
		{1, 4}, {1, 3}, {1, 3}, {1, 2}, {-1000, 1000}, {1, 4}, {1, 3}, {1, 6}, {1, 4}, {0, 4}, {1, 7}, {1, 4},
	}
}

func TestNames(t *testing.T) {
	lengths := []int{
		style.Width, style.Height, style.MinW, style.MinH, style.MaxW, style.MaxH, style.Margin, style.Padding,
		style.Inset, style.Basis, style.Lengths,
	}
	if !slices.Equal(lengths, []int{0, 1, 2, 3, 4, 5, 6, 10, 14, 18, 19}) {
		t.Errorf("lengths: %v", lengths)
	}
	numbers := []int{
		style.Border, style.Z, style.Grow, style.Shrink, style.RowGap, style.ColumnGap, style.Line, style.Numbers,
	}
	if !slices.Equal(numbers, []int{0, 4, 5, 6, 7, 8, 9, 10}) {
		t.Errorf("numbers: %v", numbers)
	}
	words := []int{
		style.Display, style.Position, style.Overflow, style.Sizing, style.Order, style.Direction, style.Wrap,
		style.Justify, style.Items, style.Self, style.Content, style.Text, style.Words,
	}
	if !slices.Equal(words, []int{0, 1, 2, 3, 4, 5, 6, 7, 8, 9, 10, 11, 12}) {
		t.Errorf("words: %v", words)
	}
	meanings := []int{
		style.Block, style.Flex, style.Atom, style.Hide, style.Static, style.Relative, style.Absolute,
		style.Show, style.Scroll, style.Clip, style.Inner, style.Whole,
	}
	if !slices.Equal(meanings, []int{1, 2, 3, 4, 1, 2, 3, 1, 2, 3, 1, 2}) {
		t.Errorf("what words mean: %v", meanings)
	}
}

// P11.1

func TestDefault(t *testing.T) {
	r := style.Default()
	same := func(got, want float64) bool {
		if math.IsNaN(want) {
			return math.IsNaN(got)
		}
		return got == want && !math.Signbit(got)
	}
	lengths := [19]float64{nan, nan, nan, nan, inf, inf, 0, 0, 0, 0, 0, 0, 0, 0, nan, nan, nan, nan, nan}
	for i, want := range lengths {
		if !same(r.Lengths[i].V, want) || r.Lengths[i].Pct {
			t.Errorf("length %d: %v", i, r.Lengths[i])
		}
	}
	for i, want := range [10]float64{0, 0, 0, 0, nan, 0, 1, 0, 0, nan} {
		if !same(r.Numbers[i], want) {
			t.Errorf("number %d: %v", i, r.Numbers[i])
		}
	}
	if r.Words != [12]int{1, 1, 1, 1, 0, 1, 1, 1, 1, 0, 1, 1} {
		t.Errorf("words: %v", r.Words)
	}
	if r.Lines != [4]bool{} || r.Colour != 0 {
		t.Errorf("lines %v, colour %d", r.Lines, r.Colour)
	}
}

func TestDefaultIsNew(t *testing.T) {
	r := style.Default()
	r.Lengths[style.Width].V, r.Numbers[style.Shrink], r.Words[style.Display], r.Lines[0] = 5, 5, 2, true
	TestDefault(t)
}

// P11.2

func TestComputeDefault(t *testing.T) {
	auto, none, nought := value.Value{Kind: value.Auto}, value.Value{Kind: value.None}, value.Value{Kind: value.Fixed}
	want := style.Style{
		Lengths: [19]value.Value{
			auto, auto, auto, auto, none, none, nought, nought, nought, nought, nought, nought, nought, nought,
			auto, auto, auto, auto, auto,
		},
		Numbers: [10]int64{0, 0, 0, 0, 0, 0, 4096, 0, 0, 1280},
		AutoZ:   true,
		Words:   [12]int{1, 1, 1, 1, 0, 1, 1, 1, 1, 0, 1, 1},
	}
	if got := computed(t, style.Default()); got != want {
		t.Errorf("%v, not %v", got, want)
	}
}

// The zero raw style has words that are 0.
func TestComputeZero(t *testing.T) {
	checkError(t, style.Raw{}, api.ErrStyle)
}

func TestComputeLengths(t *testing.T) {
	floats := []float64{
		nan, inf, -inf, 0, minus, 1.0 / 128, -1.0 / 128, 0.3, -0.3, 12.5, -12.5, 100, 1 << 24, -1 << 24, 1<<24 + 1, -1<<24 - 1,
		math.MaxFloat64, -math.MaxFloat64, 0x1p-1074,
	}
	for i := range style.Lengths {
		for _, f := range floats {
			for _, pct := range []bool{false, true} {
				r := style.Default()
				r.Lengths[i] = value.Raw{V: f, Pct: pct}
				want, e := value.Decode(r.Lengths[i], mayOf(i))
				if e != api.OK {
					checkError(t, r, e)
					continue
				}
				all := computed(t, style.Default())
				all.Lengths[i] = want
				if got := computed(t, r); got != all {
					t.Errorf("length %d of %v: %v", i, r.Lengths[i], got.Lengths)
				}
			}
		}
	}
}

func TestComputeLengthEdges(t *testing.T) {
	auto, none := value.Value{Kind: value.Auto}, value.Value{Kind: value.None}
	cases := []struct {
		i    int
		x    value.Raw
		want value.Value
		e    api.Errno
	}{
		{style.Width, value.Raw{V: 12.5}, value.Value{Kind: value.Fixed, N: 800}, api.OK},
		{style.Height, value.Raw{V: 12.5, Pct: true}, value.Value{Kind: value.Percent, N: 800}, api.OK},
		{style.Width, value.Raw{V: inf}, value.Value{}, api.ErrInf},
		{style.Basis, value.Raw{V: -1}, value.Value{}, api.ErrStyle},
		{style.Basis, value.Raw{V: nan, Pct: true}, auto, api.OK},
		{style.MinW, value.Raw{V: nan}, auto, api.OK},
		{style.MinH, value.Raw{V: inf}, value.Value{}, api.ErrInf},
		{style.MaxW, value.Raw{V: inf}, none, api.OK},
		{style.MaxH, value.Raw{V: nan}, value.Value{}, api.ErrNaN},
		{style.MaxH, value.Raw{V: -inf}, value.Value{}, api.ErrInf},
		{style.MaxW, value.Raw{V: -1}, value.Value{}, api.ErrStyle},
		{style.Margin, value.Raw{V: nan}, auto, api.OK},
		{style.Margin + 3, value.Raw{V: -1, Pct: true}, value.Value{Kind: value.Percent, N: -64}, api.OK},
		{style.Inset, value.Raw{V: -1}, value.Value{Kind: value.Fixed, N: -64}, api.OK},
		{style.Inset + 3, value.Raw{V: -1 << 25}, value.Value{}, api.ErrRange},
		{style.Padding, value.Raw{V: nan}, value.Value{}, api.ErrNaN},
		{style.Padding + 1, value.Raw{V: 50, Pct: true}, value.Value{Kind: value.Percent, N: 3200}, api.OK},
		{style.Padding + 3, value.Raw{V: -1}, value.Value{}, api.ErrStyle},
		{style.Padding + 3, value.Raw{V: -1.0 / 128}, value.Value{Kind: value.Fixed}, api.OK},
	}
	for _, c := range cases {
		r := style.Default()
		r.Lengths[c.i] = c.x
		if got, e := style.Compute(r); got.Lengths[c.i] != c.want || e != c.e {
			t.Errorf("length %d of %v: %v, %d, not %v, %d", c.i, c.x, got.Lengths[c.i], e, c.want, c.e)
		}
	}
}

// grid says of a float that is no NaN what the document does, with exact numbers.
func grid(f float64, row numberRow) int64 {
	if math.IsInf(f, 1) {
		return row.high
	}
	if math.IsInf(f, -1) {
		return row.low
	}
	twice := new(big.Rat).Mul(new(big.Rat).SetFloat64(f), big.NewRat(2*row.parts, 1))
	twice.Add(twice, big.NewRat(1, 1))
	// The denominators are positive, so that Euclid's quotients are rounded down.
	n := new(big.Int).Div(twice.Num(), twice.Denom())
	n.Div(n, big.NewInt(2))
	if n.Cmp(big.NewInt(row.low)) < 0 {
		return row.low
	}
	if n.Cmp(big.NewInt(row.high)) > 0 {
		return row.high
	}
	return n.Int64()
}

// sizes of floats, ordinary ones and those at which something changes.
func sizes() []float64 {
	l := []float64{
		0, 0x1p-1074, 0x1p-1022, 1e-9, 0.01, 0.1, 1.0 / 3, 0.49, 0.5, 0.51, 1, 1.5, 1.9, 2, 2.5, 12.5, 999, 999.5, 1000, 1000.49,
		1001, 1000003.7, 1<<24 - 1, 1 << 24, 1<<24 + 1, 1 << 30, 1 << 53, 0x1p63, 0x1p64, 1e300, math.MaxFloat64, inf,
	}
	// About halves of a part: next to 0, next to one, and next to each maximum.
	for _, parts := range []float64{1, 64, 4096} {
		for _, n := range []float64{0, 1, parts - 1, parts, 1000*parts - 1, 1000 * parts, parts*(1<<24) - 1, parts * (1 << 24)} {
			half := (n + 0.5) / parts
			l = append(l, n/parts, math.Nextafter(half, 0), half, math.Nextafter(half, inf))
		}
	}
	return l
}

func TestComputeNumbers(t *testing.T) {
	for i, row := range numberRows() {
		for _, f := range sizes() {
			for _, f := range []float64{f, -f} {
				r := lined()
				r.Numbers[i] = f
				all := computed(t, lined())
				all.Numbers[i] = grid(f, row)
				if i == style.Z {
					all.AutoZ = false
				}
				if got := computed(t, r); got != all {
					t.Errorf("number %d of %v: %v, %v, not %v", i, f, got.Numbers, got.AutoZ, all.Numbers)
				}
			}
		}
	}
}

func TestComputeNaN(t *testing.T) {
	for i, row := range numberRows() {
		for _, f := range nans() {
			r := lined()
			r.Numbers[i] = f
			if row.e != api.OK {
				checkError(t, r, row.e)
				continue
			}
			if got := computed(t, r); got.Numbers[i] != row.forNaN || !got.AutoZ {
				t.Errorf("number %d of NaN: %v, %v", i, got.Numbers, got.AutoZ)
			}
		}
	}
}

func TestComputeNumberEdges(t *testing.T) {
	cases := []struct {
		i int
		f float64
		n int64
	}{
		{style.Border, 0.1, 6}, {style.Border + 1, 1.9, 122}, {style.Border + 2, -1, 0}, {style.Border + 3, inf, top},
		{style.Border, 1 << 25, top}, {style.Border, 1.0 / 128, 1}, {style.Border, minus, 0},
		{style.Z, 0, 0}, {style.Z, -0.5, 0}, {style.Z, 0.5, 1}, {style.Z, -1.5, -1}, {style.Z, 1001, 1000}, {style.Z, -inf, -1000},
		{style.Grow, 1, 4096}, {style.Grow, 0.0001, 0}, {style.Grow, -3, 0}, {style.Grow, 1e9, 4096000}, {style.Grow, inf, 4096000},
		{style.Shrink, 0, 0}, {style.Shrink, 1.0 / 8192, 1}, {style.Shrink, 1000, 4096000}, {style.Shrink, 1000.1, 4096000},
		{style.RowGap, 2.5, 160}, {style.RowGap, -inf, 0}, {style.ColumnGap, inf, top}, {style.ColumnGap, -2.5, 0},
		{style.Line, 0, 0}, {style.Line, -20, 0}, {style.Line, 20, 1280}, {style.Line, 13, 832}, {style.Line, inf, top},
	}
	for _, c := range cases {
		r := lined()
		r.Numbers[c.i] = c.f
		if got := computed(t, r); got.Numbers[c.i] != c.n || got.AutoZ != (c.i != style.Z) {
			t.Errorf("number %d of %v: %d, %v", c.i, c.f, got.Numbers[c.i], got.AutoZ)
		}
	}
}

func TestComputeLines(t *testing.T) {
	for bits := range 16 {
		r := style.Default()
		want := computed(t, r)
		for side := range r.Lines {
			r.Numbers[style.Border+side] = float64(side + 2)
			r.Lines[side] = bits>>side&1 != 0
			if r.Lines[side] {
				want.Numbers[style.Border+side] = int64(side+2) * 64
			}
		}
		if got := computed(t, r); got != want {
			t.Errorf("lines %v: %v, not %v", r.Lines, got.Numbers, want.Numbers)
		}
		for side := range r.Lines {
			hidden, infinite := r, r
			hidden.Numbers[style.Border+side] = nan
			checkError(t, hidden, api.ErrNaN)
			infinite.Numbers[style.Border+side] = inf
			all := want
			if r.Lines[side] {
				all.Numbers[style.Border+side] = top
			}
			if got := computed(t, infinite); got != all {
				t.Errorf("lines %v, side %d infinite: %v", r.Lines, side, got.Numbers)
			}
		}
	}
}

func TestComputeWords(t *testing.T) {
	for i, row := range wordRows() {
		for _, word := range []int{math.MinInt, -1 << 32, math.MaxInt, 1 << 32, 1<<32 + 1, 1<<16 + 1} {
			r := style.Default()
			r.Words[i] = word
			checkError(t, r, api.ErrStyle)
		}
		for word := row[0] - 3; word <= row[1]+3; word++ {
			r := style.Default()
			r.Words[i] = word
			if word < row[0] || word > row[1] {
				checkError(t, r, api.ErrStyle)
				continue
			}
			all := computed(t, style.Default())
			all.Words[i] = word
			if got := computed(t, r); got != all {
				t.Errorf("word %d of %d: %v", i, word, got.Words)
			}
		}
	}
}

func TestComputeColour(t *testing.T) {
	for colour := range 256 {
		r := style.Default()
		r.Colour = uint8(colour)
		all := computed(t, style.Default())
		all.Colour = uint8(colour)
		if got := computed(t, r); got != all {
			t.Errorf("colour %d: %v", colour, got)
		}
	}
}

// fault is something wrong with a raw style, and its error.
type fault struct {
	make func(r *style.Raw)
	e    api.Errno
}

// faults are all in the order in which they are found; those of one length come at one place.
func faults() [][]fault {
	var l [][]fault
	for i := range style.Lengths {
		set := func(x value.Raw) func(r *style.Raw) {
			return func(r *style.Raw) { r.Lengths[i] = x }
		}
		l = append(l, []fault{
			{set(value.Raw{V: -inf}), api.ErrInf},
			{set(value.Raw{V: 1 << 25}), api.ErrRange},
		})
	}
	for i, row := range numberRows() {
		if row.e != api.OK {
			l = append(l, []fault{{func(r *style.Raw) { r.Numbers[i] = nan }, row.e}})
		}
	}
	for i := range style.Words {
		l = append(l, []fault{{func(r *style.Raw) { r.Words[i] = 5000 }, api.ErrStyle}})
	}
	return l
}

func TestComputeFirstError(t *testing.T) {
	l := faults()
	for i, firsts := range l {
		for _, seconds := range l[i+1:] {
			for _, first := range firsts {
				for _, second := range seconds {
					r := lined()
					first.make(&r)
					second.make(&r)
					checkError(t, r, first.e)
				}
			}
		}
	}
	r := lined()
	for _, at := range slices.Backward(l) {
		at[0].make(&r)
		checkError(t, r, at[0].e)
	}
}

// All of a style at once, so that nothing takes the place of anything else.
func TestComputeAll(t *testing.T) {
	r := style.Raw{
		Numbers: [10]float64{1, 2, 3, 4, 5, 6, 7, 8, 9, 10},
		Words:   [12]int{4, 3, 2, 2, -7, 3, 2, 6, 4, 3, 7, 4},
		Lines:   [4]bool{true, false, true, true},
		Colour:  200,
	}
	want := style.Style{
		Numbers: [10]int64{64, 0, 192, 256, 5, 6 * 4096, 7 * 4096, 512, 576, 640},
		Words:   r.Words,
		Colour:  200,
	}
	for i := range r.Lengths {
		r.Lengths[i] = value.Raw{V: float64(i + 1), Pct: i%3 == 1}
		want.Lengths[i] = value.Value{Kind: value.Fixed, N: int64(i+1) * 64}
		if i%3 == 1 {
			want.Lengths[i].Kind = value.Percent
		}
	}
	if got := computed(t, r); got != want {
		t.Errorf("%v, not %v", got, want)
	}
}

// P11.3

// hairline says what the document does, with exact numbers: the width, or the error with which it aborts.
func hairline(n int64, r ratio.Ratio) (int64, api.Errno) {
	if !r.Good() {
		return 0, api.ErrArg
	}
	product := new(big.Int).Mul(big.NewInt(n), big.NewInt(r.N))
	// D is positive, so that Euclid's quotient is rounded down.
	scaled := product.Div(product, big.NewInt(r.D))
	if scaled.CmpAbs(big.NewInt(api.MaxLen)) > 0 {
		return 0, api.ErrRange
	}
	if n == 0 {
		return 0, api.OK
	}
	pixels := new(big.Int).Div(scaled, big.NewInt(64))
	return 64 * max(pixels.Int64(), 1), api.OK
}

func tried(n int64, r ratio.Ratio) (width int64, e api.Errno) {
	e = fixed.Try(func() { width = style.Hairline(n, r) })
	return width, e
}

func ints() []int64 {
	return []int64{
		least, least + 1, -api.MaxLen - 1, -api.MaxLen, -1 << 30, -6400, -129, -128, -64, -63, -1,
		0, 1, 2, 6, 31, 32, 42, 43, 63, 64, 65, 85, 86, 95, 96, 122, 127, 128, 129, 191, 192, 1000003,
		top - 1, top, 1<<44 - 64, 1<<44 - 1, 1 << 44, 1<<44 + 1, 1<<45 + 1, most - 1, most,
	}
}

// ratios, of which some are not valid.
func ratios() []ratio.Ratio {
	return []ratio.Ratio{
		{N: 1, D: 1}, {N: 3, D: 2}, {N: 1, D: 2}, {N: 1, D: 3}, {N: 2, D: 1}, {N: 0, D: 1}, {N: -2, D: 3}, {N: -1, D: 1},
		{N: 1 << 14, D: 1}, {N: 1<<14 + 1, D: 1}, {N: 1, D: 4096}, {N: 256, D: 1}, {N: 65, D: 64},
		{N: most, D: 1}, {N: least, D: 1}, {N: 1, D: most}, {N: most, D: most - 1},
		{}, {N: 2, D: 4}, {N: 0, D: 2}, {N: 1, D: -1}, {N: 1}, {N: 0, D: -1}, {N: least, D: least},
	}
}

func TestHairline(t *testing.T) {
	for _, n := range ints() {
		for _, r := range ratios() {
			want, e := hairline(n, r)
			if got, gotE := tried(n, r); got != want || gotE != e {
				t.Errorf("Hairline(%d, %v): %d, %d, not %d, %d", n, r, got, gotE, want, e)
			}
		}
	}
}

func TestHairlineEdges(t *testing.T) {
	one, half := ratio.Ratio{N: 1, D: 1}, ratio.Ratio{N: 1, D: 2}
	cases := []struct {
		n    int64
		r    ratio.Ratio
		want int64
		e    api.Errno
	}{
		{0, one, 0, api.OK},
		{0, ratio.Ratio{N: most, D: 1}, 0, api.OK},
		{0, ratio.Ratio{}, 0, api.ErrArg},
		{0, ratio.Ratio{N: 2, D: 2}, 0, api.ErrArg},
		{1, one, 64, api.OK},
		{6, one, 64, api.OK},
		{122, one, 64, api.OK},
		{127, one, 64, api.OK},
		{128, one, 128, api.OK},
		{1, ratio.Ratio{N: 1, D: 4096}, 64, api.OK},
		{5, ratio.Ratio{N: 0, D: 1}, 64, api.OK},
		{255, half, 64, api.OK},
		{256, half, 128, api.OK},
		{85, ratio.Ratio{N: 3, D: 2}, 64, api.OK},
		{86, ratio.Ratio{N: 3, D: 2}, 128, api.OK},
		{-1, one, 64, api.OK},
		{-640, one, 64, api.OK},
		{-128, ratio.Ratio{N: -1, D: 1}, 128, api.OK},
		{128, ratio.Ratio{N: -1, D: 1}, 64, api.OK},
		{api.MaxLen, one, api.MaxLen, api.OK},
		{api.MaxLen - 1, one, api.MaxLen - 64, api.OK},
		{api.MaxLen + 1, one, 0, api.ErrRange},
		{-api.MaxLen - 1, one, 0, api.ErrRange},
		{top, ratio.Ratio{N: 1<<14 + 1, D: 1}, 0, api.ErrRange},
		{most, ratio.Ratio{N: most, D: 1}, 0, api.ErrRange},
		{most, ratio.Ratio{N: 2, D: 4}, 0, api.ErrArg},
	}
	for _, c := range cases {
		if got, e := tried(c.n, c.r); got != c.want || e != c.e {
			t.Errorf("Hairline(%d, %v): %d, %d, not %d, %d", c.n, c.r, got, e, c.want, c.e)
		}
	}
}

func TestHairlineOutsideOfTry(t *testing.T) {
	defer func() {
		if recover() == nil {
			t.Error("does not panic")
		}
	}()
	style.Hairline(0, ratio.Ratio{})
}

func borders(s style.Style, r ratio.Ratio) (widths [4]int64, e api.Errno) {
	e = fixed.Try(func() { widths = s.Borders(r) })
	return widths, e
}

func TestBorders(t *testing.T) {
	for i, n := range ints() {
		// The other numbers are none that could be scaled.
		s := style.Style{Numbers: [10]int64{1, 0, n, ints()[(i+7)%len(ints())], most, most, most, most, most, most}}
		for _, r := range ratios() {
			var want [4]int64
			wantE := api.OK
			for side := range want {
				width, e := hairline(s.Numbers[side], r)
				want[side] = width
				if wantE == api.OK {
					wantE = e
				}
			}
			if wantE != api.OK {
				want = [4]int64{}
			}
			if got, e := borders(s, r); got != want || e != wantE {
				t.Errorf("%v at %v: %v, %d, not %v, %d", s.Numbers, r, got, e, want, wantE)
			}
		}
	}
}

// Whichever side it is whose border can't be scaled.
func TestBordersAbort(t *testing.T) {
	for side := range 4 {
		s := style.Style{}
		s.Numbers[style.Border+side] = api.MaxLen + 1
		if got, e := borders(s, ratio.Ratio{N: 1, D: 1}); got != [4]int64{} || e != api.ErrRange {
			t.Errorf("side %d: %v, %d", side, got, e)
		}
	}
	if got, e := borders(style.Style{}, ratio.Ratio{}); got != [4]int64{} || e != api.ErrArg {
		t.Errorf("no borders, and no ratio: %v, %d", got, e)
	}
}

func TestComputedBorders(t *testing.T) {
	r := style.Default()
	r.Numbers = [10]float64{0.1, 1.9, 2, 2, 0, 0, 0, 0, 0, 0}
	r.Lines = [4]bool{true, true, false, true}
	s := computed(t, r)
	if got := s.Borders(ratio.Ratio{N: 1, D: 1}); got != [4]int64{64, 64, 0, 128} {
		t.Errorf("1 / 1: %v", got)
	}
	if got := s.Borders(ratio.Ratio{N: 3, D: 2}); got != [4]int64{64, 128, 0, 192} {
		t.Errorf("3 / 2: %v", got)
	}
	if got := s.Borders(ratio.Ratio{N: 1, D: 4}); got != [4]int64{64, 64, 0, 64} {
		t.Errorf("1 / 4: %v", got)
	}
}
