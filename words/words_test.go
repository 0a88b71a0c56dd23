package words_test

import (
	"math"
	"math/big"
	"slices"
	"testing"

	"clapboard/api"
	"clapboard/fixed"
	"clapboard/ratio"
	"clapboard/words"
)

const (
	least = math.MinInt64
	most  = math.MaxInt64
	// top is the greatest number of 64ths.
	top = 1 << 30
)

var (
	nan   = math.NaN()
	inf   = math.Inf(1)
	minus = math.Copysign(0, -1)
)

// many words, as many as are asked for.
func many(n int) []words.Raw {
	l := make([]words.Raw, n)
	for i := range l {
		l[i] = words.Raw{W: float64(i) + 0.5, Space: float64(i) / 4, Break: i%3 == 0}
	}
	return l
}

// decoded says of the words of many what they become.
func decoded(n int) []words.Word {
	l := make([]words.Word, n)
	for i := range l {
		l[i] = words.Word{W: int64(i)*64 + 32, Space: int64(i) * 16, Break: i%3 == 0}
	}
	return l
}

func check(t *testing.T, l []words.Raw, want []words.Word, e api.Errno) {
	t.Helper()
	if got, gotE := words.Decode(l); !slices.Equal(got, want) || gotE != e {
		t.Errorf("Decode(%v): %v, %d, not %v, %d", l, got, gotE, want, e)
	}
}

// P12.1

func TestDecodeOrder(t *testing.T) {
	for _, n := range []int{0, 1, 2, 3, 64, api.MaxWords - 1, api.MaxWords} {
		check(t, many(n), decoded(n), api.OK)
	}
	check(t, nil, nil, api.OK)
	check(t, []words.Raw{}, nil, api.OK)
}

func TestDecodeTooMany(t *testing.T) {
	if api.MaxWords != 256 {
		t.Errorf("at most %d words", api.MaxWords)
	}
	for _, n := range []int{api.MaxWords + 1, api.MaxWords + 2, 5000} {
		check(t, many(n), nil, api.ErrCount)
		l := many(n)
		l[0].W, l[n-1].Space = nan, nan
		check(t, l, nil, api.ErrCount)
	}
}

func TestDecodeNaN(t *testing.T) {
	nans := []float64{
		nan, math.Float64frombits(0xfff8000000000001), math.Float64frombits(0x7ff0000000000001),
		math.Float64frombits(math.MaxUint64),
	}
	for _, f := range nans {
		check(t, []words.Raw{{W: f}}, nil, api.ErrNaN)
		check(t, []words.Raw{{Space: f}}, nil, api.ErrNaN)
		check(t, []words.Raw{{W: f, Space: f, Break: true}}, nil, api.ErrNaN)
	}
	for _, n := range []int{1, 2, 5, api.MaxWords} {
		for i := range n {
			l := many(n)
			l[i].W = nan
			check(t, l, nil, api.ErrNaN)
			l = many(n)
			l[i].Space = nan
			check(t, l, nil, api.ErrNaN)
		}
	}
}

// grid says of a float that is no NaN what the document does, with exact numbers.
func grid(f float64) int64 {
	if math.IsInf(f, 1) {
		return top
	}
	if math.IsInf(f, -1) {
		return 0
	}
	twice := new(big.Rat).Mul(new(big.Rat).SetFloat64(f), big.NewRat(128, 1))
	twice.Add(twice, big.NewRat(1, 1))
	// The denominators are positive, so that Euclid's quotients are rounded down.
	n := new(big.Int).Div(twice.Num(), twice.Denom())
	n.Div(n, big.NewInt(2))
	if n.Sign() < 0 {
		return 0
	}
	if n.Cmp(big.NewInt(top)) > 0 {
		return top
	}
	return n.Int64()
}

// sizes of floats, ordinary ones and those at which something changes.
func sizes() []float64 {
	l := []float64{
		0, 0x1p-1074, 0x1p-1022, 1e-9, 0.01, 0.1, 1.0 / 3, 0.5, 1, 1.5, 2.5, 12.5, 1000003.7, 1<<24 - 1, 1 << 24, 1<<24 + 1,
		1 << 30, 1 << 53, 1 << 57, 1 << 58, 0x1p63, 0x1p64, 1e300, math.MaxFloat64, inf,
	}
	// About each half of a 64th: next to 0, next to one pixel, and next to the limit.
	for _, n := range []float64{0, 1, 2, 63, 64, top - 1, top, top + 1} {
		half := (n + 0.5) / 64
		l = append(l, n/64, math.Nextafter(half, 0), half, math.Nextafter(half, inf))
	}
	return l
}

func TestDecodeWidths(t *testing.T) {
	for _, f := range sizes() {
		for _, f := range []float64{f, -f} {
			for _, mayBreak := range []bool{false, true} {
				check(t, []words.Raw{{W: f, Space: 3, Break: mayBreak}}, []words.Word{{W: grid(f), Space: 192, Break: mayBreak}}, api.OK)
				check(t, []words.Raw{{W: 3, Space: f, Break: mayBreak}}, []words.Word{{W: 192, Space: grid(f), Break: mayBreak}}, api.OK)
			}
		}
	}
}

func TestDecodeEdges(t *testing.T) {
	cases := []struct {
		f float64
		n int64
	}{
		{1.5, 96}, {minus, 0}, {0, 0}, {-1, 0}, {-inf, 0}, {inf, top}, {1 << 24, top}, {1<<24 + 1, top}, {1<<24 - 1, top - 64},
		{1.0 / 128, 1}, {math.Nextafter(1.0/128, 0), 0}, {3.0 / 128, 2}, {-1.0 / 128, 0}, {0.1, 6}, {math.MaxFloat64, top},
	}
	for _, c := range cases {
		check(t, []words.Raw{{W: c.f, Space: 1}}, []words.Word{{W: c.n, Space: 64}}, api.OK)
		check(t, []words.Raw{{W: 1, Space: c.f}}, []words.Word{{W: 64, Space: c.n}}, api.OK)
	}
	check(t, []words.Raw{{W: 1.5, Space: minus, Break: true}}, []words.Word{{W: 96, Break: true}}, api.OK)
}

// The raw words are neither changed, nor what lies behind them, nor kept, and no two results share memory.
func TestDecodeOwnMemory(t *testing.T) {
	all := many(6)
	l := all[:4]
	first, _ := words.Decode(l)
	second, _ := words.Decode(l)
	if !slices.Equal(all, many(6)) {
		t.Errorf("the raw words: %v", all)
	}
	l[1].W = 1000
	first[2].W = 1000
	want := decoded(4)
	if !slices.Equal(second, want) {
		t.Errorf("another result: %v", second)
	}
	want[2].W = 1000
	if !slices.Equal(first, want) {
		t.Errorf("the result: %v", first)
	}
}

// P12.2

// scale calls what may abort: its result, or the error.
func scale(l []words.Word, r ratio.Ratio) (scaled []words.Word, e api.Errno) {
	e = fixed.Try(func() { scaled = words.Scale(l, r) })
	return scaled, e
}

func checkScale(t *testing.T, l []words.Word, r ratio.Ratio, want []words.Word, e api.Errno) {
	t.Helper()
	if got, gotE := scale(l, r); !slices.Equal(got, want) || gotE != e {
		t.Errorf("Scale(%v, %v): %v, %d, not %v, %d", l, r, got, gotE, want, e)
	}
}

func ints() []int64 {
	return []int64{
		least, -api.MaxLen - 1, -api.MaxLen, -65, -3, -1, 0, 1, 2, 3, 63, 64, 96, 1000003, top, api.MaxLen - 1, api.MaxLen,
		api.MaxLen + 1, 2*api.MaxLen + 1, most,
	}
}

// ratios, of which some are not valid.
func ratios() []ratio.Ratio {
	return []ratio.Ratio{
		{N: 1, D: 1}, {N: 3, D: 2}, {N: 1, D: 2}, {N: 1, D: 3}, {N: 0, D: 1}, {N: -2, D: 3}, {N: 1 << 14, D: 1}, {N: 1<<14 + 1, D: 1},
		{N: 1, D: 4096}, {N: 256, D: 1}, {N: most, D: 1}, {N: least, D: 1}, {N: 1, D: most},
		{}, {N: 2, D: 4}, {N: 0, D: 2}, {N: 1, D: -1}, {N: 1}, {N: 0, D: -1},
	}
}

// fraction scales with exact numbers: the length, or the error with which layer 4 aborts.
func fraction(n int64, r ratio.Ratio) (int64, api.Errno) {
	if !r.Good() {
		return 0, api.ErrArg
	}
	product := new(big.Int).Mul(big.NewInt(n), big.NewInt(r.N))
	// D is positive, so that Euclid's quotient is rounded down.
	product.Div(product, big.NewInt(r.D))
	if product.CmpAbs(big.NewInt(api.MaxLen)) > 0 {
		return 0, api.ErrRange
	}
	return product.Int64(), api.OK
}

func TestScale(t *testing.T) {
	for _, r := range ratios() {
		for _, n := range ints() {
			scaled, e := fraction(n, r)
			for _, mayBreak := range []bool{false, true} {
				var wide, spaced []words.Word
				if e == api.OK {
					wide, spaced = []words.Word{{W: scaled, Break: mayBreak}}, []words.Word{{Space: scaled, Break: mayBreak}}
				}
				checkScale(t, []words.Word{{W: n, Break: mayBreak}}, r, wide, e)
				checkScale(t, []words.Word{{Space: n, Break: mayBreak}}, r, spaced, e)
			}
		}
	}
}

func TestScaleOrder(t *testing.T) {
	l := []words.Word{{W: 96, Space: 1, Break: true}, {W: 1, Space: 96}, {W: 0, Space: 3}, {W: -1, Space: 0, Break: true}}
	want := []words.Word{{W: 144, Space: 1, Break: true}, {W: 1, Space: 144}, {W: 0, Space: 4}, {W: -2, Space: 0, Break: true}}
	checkScale(t, l, ratio.Ratio{N: 3, D: 2}, want, api.OK)
	checkScale(t, l, ratio.Ratio{N: 1, D: 1}, l, api.OK)
	checkScale(t, l, ratio.Ratio{N: 2, D: 2}, nil, api.ErrArg)
}

// As many words as there are, and none, for which no ratio is asked.
func TestScaleLengths(t *testing.T) {
	for _, n := range []int{0, 1, api.MaxWords, api.MaxWords + 1, 5000} {
		checkScale(t, decoded(n), ratio.Ratio{N: 1, D: 1}, decoded(n), api.OK)
	}
	for _, r := range ratios() {
		checkScale(t, nil, r, nil, api.OK)
		checkScale(t, []words.Word{}, r, nil, api.OK)
	}
}

func TestScaleAborts(t *testing.T) {
	twice := ratio.Ratio{N: 2, D: 1}
	for i := range 5 {
		l := slices.Repeat([]words.Word{{W: 64, Space: 16}}, 5)
		l[i].W = api.MaxLen/2 + 1
		checkScale(t, l, twice, nil, api.ErrRange)
		l[i] = words.Word{W: 1, Space: -api.MaxLen/2 - 1}
		checkScale(t, l, twice, nil, api.ErrRange)
		checkScale(t, l, ratio.Ratio{}, nil, api.ErrArg)
	}
	defer func() {
		if recover() == nil {
			t.Error("does not panic outside of Try")
		}
	}()
	words.Scale([]words.Word{{}}, ratio.Ratio{})
}

func TestScaleOwnMemory(t *testing.T) {
	all := decoded(6)
	l := all[:4]
	one := ratio.Ratio{N: 1, D: 1}
	first, second := words.Scale(l, one), words.Scale(l, one)
	words.Scale(l, ratio.Ratio{N: 3, D: 1})
	if !slices.Equal(all, decoded(6)) {
		t.Errorf("the words: %v", all)
	}
	l[1].W = 1000
	first[2].W = 1000
	want := decoded(4)
	if !slices.Equal(second, want) {
		t.Errorf("another result: %v", second)
	}
	want[2].W = 1000
	if !slices.Equal(first, want) {
		t.Errorf("the result: %v", first)
	}
}

func TestDecodedAndScaled(t *testing.T) {
	l, e := words.Decode([]words.Raw{{W: 10, Space: 2, Break: true}, {W: 10.25}})
	if e != api.OK {
		t.Fatal(e)
	}
	checkScale(t, l, ratio.Ratio{N: 3, D: 2}, []words.Word{{W: 960, Space: 192, Break: true}, {W: 984}}, api.OK)
}
