package quant_test

import (
	"math"
	"math/big"
	"math/rand"
	"slices"
	"sync"
	"testing"

	"vicinage/api"
	"vicinage/quant"
)

const (
	sign        = 1 << 63
	infinite    = 0x7FF << 52
	leastNormal = 1 << 52
	most        = math.MaxInt32
	least       = math.MinInt32
)

func bitsOf(v float64) uint64 { return math.Float64bits(v) }

// nans is NaNs of both signs: the least, the greatest, and some between.
func nans() []uint64 {
	l := []uint64{infinite + 1, infinite + 2, infinite | 1<<51, infinite | 1<<51 | 1, infinite | 1<<51 - 1, sign - 1}
	return append(l, withSign(l)...)
}

// numbers is the least and the greatest float of each kind, but NaNs, and some between, of both signs.
func numbers() []uint64 {
	l := []uint64{0, 1, 2, leastNormal - 2, leastNormal - 1, leastNormal, leastNormal + 1, infinite - 2, infinite - 1, infinite}
	for _, v := range []float64{0.25, 0.5, 1, 1.5, 2, 2.5, 3, 1e-9, 1e9, 0x1p-64, 0x1p64, 0x1p-95, 0x1p95} {
		l = append(l, bitsOf(v)-1, bitsOf(v), bitsOf(v)+1)
	}
	return append(l, withSign(l)...)
}

func floats() []uint64 { return append(numbers(), nans()...) }

func withSign(l []uint64) []uint64 {
	out := make([]uint64, len(l))
	for i, x := range l {
		out[i] = x | sign
	}
	return out
}

// scales is all scales.
func scales() []int {
	var l []int
	for s := -api.MaxScale; s <= api.MaxScale; s++ {
		l = append(l, s)
	}
	return l
}

// noScales is numbers that are no scale.
func noScales() []int {
	return []int{-api.MaxScale - 1, api.MaxScale + 1, -1000, 1000, math.MinInt32, math.MaxInt32, math.MinInt, math.MaxInt, 1 << 32, -1 << 32, 1<<32 + 1}
}

// around is, for a scale, floats that become whole numbers of all kinds: whole
// ones, halves, the bounds and what is beyond them, each with the floats next to it.
func around(scale int) []uint64 {
	var l []uint64
	for _, y := range []float64{0.5, 1, 1.5, 2, 2.5, 3, 3.5, 4.5, 1000.5, 1001.5, 1 << 20, 1<<30 - 0.5, 1 << 30, 1<<30 + 0.5, most - 1.5, most - 1, most - 0.5, most, most + 0.5, most + 1, most + 1.5, most + 2, 1 << 32, 1 << 40} {
		x := bitsOf(math.Ldexp(y, -scale))
		l = append(l, x-1, x, x+1)
	}
	return append(l, withSign(l)...)
}

// near draws a float whose value times 2^scale is about as great as 31 bits, or anything.
func near(r *rand.Rand, scale int) uint64 {
	switch r.Intn(4) {
	case 0:
		return r.Uint64()
	case 1:
		return bitsOf(math.Ldexp(float64(r.Uint64()>>r.Intn(64)), r.Intn(80)-40-scale)) | uint64(r.Intn(2))<<63
	case 2: // a whole number and some half
		return bitsOf(math.Ldexp(float64(int32(r.Uint32()))+float64(r.Intn(2))/2, -scale))
	}
	return bitsOf(math.Ldexp(r.NormFloat64(), r.Intn(36)-scale))
}

// parts is a float's sign bit, exponent and fraction, by division.
func parts(x uint64) (negative bool, exponent, fraction uint64) {
	return x/sign == 1, x / leastNormal % 2048, x % leastNormal
}

// slowKind is a float's kind as the form binary64 has it.
func slowKind(x uint64) api.Kind {
	_, e, f := parts(x)
	switch {
	case e == 2047 && f != 0:
		return api.KindNaN
	case e == 2047:
		return api.KindInfinite
	case e != 0:
		return api.KindNormal
	case f != 0:
		return api.KindSub
	}
	return api.KindNought
}

// twoTo is 2^n of any n.
func twoTo(n int) *big.Rat {
	p := new(big.Rat).SetInt(new(big.Int).Lsh(big.NewInt(1), uint(max(n, -n))))
	if n < 0 {
		p.Inv(p)
	}
	return p
}

// slowValue is the value of a finite float, exactly.
func slowValue(x uint64) *big.Rat {
	negative, e, f := parts(x)
	if e > 0 {
		f += leastNormal
	} else {
		e = 1
	}
	v := new(big.Rat).Mul(new(big.Rat).SetInt(new(big.Int).SetUint64(f)), twoTo(int(e)-1075))
	if negative {
		v.Neg(v)
	}
	return v
}

// nearest is the whole number nearest to y, of two the even one.
func nearest(y *big.Rat) *big.Int {
	n := new(big.Int).Div(y.Num(), y.Denom()) // the greatest one that is not above y
	rest := new(big.Rat).Sub(y, new(big.Rat).SetInt(n))
	switch c := rest.Cmp(big.NewRat(1, 2)); {
	case c > 0, c == 0 && n.Bit(0) == 1:
		n.Add(n, big.NewInt(1))
	}
	return n
}

// slowQuant is what a float, no NaN, becomes, as the chapter's words have it.
func slowQuant(x uint64, scale int) (int32, api.Mark) {
	negative, _, _ := parts(x)
	if slowKind(x) == api.KindInfinite {
		if negative {
			return least, api.MarkClipped
		}
		return most, api.MarkClipped
	}
	y := new(big.Rat).Mul(slowValue(x), twoTo(scale))
	n := nearest(y)
	if n.Cmp(big.NewInt(most)) > 0 {
		return most, api.MarkClipped
	}
	if n.Cmp(big.NewInt(least)) < 0 {
		return least, api.MarkClipped
	}
	var mark api.Mark
	if new(big.Rat).SetInt(n).Cmp(y) != 0 {
		mark += api.MarkRounded
	}
	if n.Sign() == 0 && negative {
		mark += api.MarkNegative
	}
	return int32(n.Int64()), mark
}

// becomes tells it, if a float does not become that number with those marks.
func becomes(t *testing.T, x uint64, scale int, n int32, mark api.Mark) {
	t.Helper()
	if got, marks, err := quant.Quant(x, scale); got != n || marks != mark || err != api.OK {
		t.Errorf("Quant of %x (%g) with %d: %d, marks %d, error %d, not %d, marks %d", x, math.Float64frombits(x), scale, got, marks, err, n, mark)
	}
}

// asInTheWords tells it, if a float does not become what the model says.
func asInTheWords(t *testing.T, x uint64, scale int) {
	t.Helper()
	if slowKind(x) == api.KindNaN {
		return
	}
	n, mark := slowQuant(x, scale)
	becomes(t, x, scale, n, mark)
}

// The model's own answers, told by hand.
func TestTheModel(t *testing.T) {
	for _, x := range floats() {
		if k := slowKind(x); k == api.KindNaN || k == api.KindInfinite {
			continue
		}
		v, exact := slowValue(x).Float64()
		if !exact || v != math.Float64frombits(x) {
			t.Errorf("the value of %x is %g", x, v)
		}
	}
	for _, c := range []struct {
		y    *big.Rat
		want int64
	}{
		{big.NewRat(1, 2), 0}, {big.NewRat(-1, 2), 0}, {big.NewRat(3, 2), 2}, {big.NewRat(-3, 2), -2}, {big.NewRat(5, 2), 2}, {big.NewRat(-5, 2), -2},
		{big.NewRat(4, 3), 1}, {big.NewRat(5, 3), 2}, {big.NewRat(-4, 3), -1}, {big.NewRat(-5, 3), -2}, {big.NewRat(7, 1), 7}, {big.NewRat(-7, 1), -7},
	} {
		if n := nearest(c.y); n.Int64() != c.want {
			t.Errorf("nearest to %s: %s, not %d", c.y, n, c.want)
		}
	}
}

// P3.1

func TestKindOfKnown(t *testing.T) {
	for _, c := range []struct {
		x    uint64
		want api.Kind
	}{
		{0, api.KindNought},
		{1, api.KindSub},
		{leastNormal / 2, api.KindSub},
		{leastNormal - 1, api.KindSub},
		{leastNormal, api.KindNormal},
		{leastNormal + 1, api.KindNormal},
		{bitsOf(1), api.KindNormal},
		{bitsOf(0.1), api.KindNormal},
		{bitsOf(math.MaxFloat32), api.KindNormal},
		{infinite - 1, api.KindNormal},
		{infinite, api.KindInfinite},
		{infinite + 1, api.KindNaN},
		{infinite + 1<<51 - 1, api.KindNaN},
		{infinite + 1<<51, api.KindNaN},
		{sign - 1, api.KindNaN},
	} {
		for _, x := range []uint64{c.x, c.x | sign} {
			if k := quant.KindOf(x); k != c.want {
				t.Errorf("KindOf %x: %d, not %d", x, k, c.want)
			}
		}
	}
}

func TestKindOfIsTheWordsWay(t *testing.T) {
	r := rand.New(rand.NewSource(1))
	l := floats()
	for range 100000 {
		x := r.Uint64()
		l = append(l, x, x>>r.Intn(64), x&^(2047<<52), x|2047<<52, x&(sign|2047<<52))
	}
	for _, x := range l {
		if k, want := quant.KindOf(x), slowKind(x); k != want {
			t.Fatalf("KindOf %x: %d, not %d", x, k, want)
		}
	}
}

// P3.2

func TestQuantKnown(t *testing.T) {
	const rounded, clipped, negative = api.MarkRounded, api.MarkClipped, api.MarkNegative
	inf := math.Inf(1)
	for _, c := range []struct {
		v     float64
		scale int
		n     int32
		mark  api.Mark
	}{
		// The chapter's examples.
		{2.5, 0, 2, rounded},
		{3.5, 0, 4, rounded},
		{-0.5, 0, 0, rounded | negative},
		{math.Copysign(0, -1), 0, 0, negative},
		{0.75, 2, 3, 0},
		{1, 31, most, clipped},
		{-1, 31, least, 0},
		{inf, 0, most, clipped},
		{0x1p-1074, 64, 0, rounded},
		{2147483647.5, 0, most, clipped},
		// Noughts, and what is next to them.
		{0, 0, 0, 0},
		{0, 64, 0, 0},
		{math.Copysign(0, -1), -64, 0, negative},
		{0x1p-1074, -64, 0, rounded},
		{-0x1p-1074, -64, 0, rounded | negative},
		{-0x1p-1074, 64, 0, rounded | negative},
		{0x1p-1022, -64, 0, rounded},
		{-0x1p-1022, -1, 0, rounded | negative},
		// Whole numbers, and halves between an even and an odd one.
		{1, 0, 1, 0},
		{-7, 0, -7, 0},
		{0.5, 0, 0, rounded},
		{1.5, 0, 2, rounded},
		{-1.5, 0, -2, rounded},
		{-2.5, 0, -2, rounded},
		{-3.5, 0, -4, rounded},
		{math.Nextafter(0.5, 1), 0, 1, rounded},
		{math.Nextafter(-0.5, -1), 0, -1, rounded},
		{math.Nextafter(2.5, 3), 0, 3, rounded},
		{math.Nextafter(3.5, 3), 0, 3, rounded},
		{0.1, 10, 102, rounded},
		{1000000, -6, 15625, 0},
		{3, 1, 6, 0},
		{3, -1, 2, rounded},
		{-1, -1, 0, rounded | negative},
		{-1, -64, 0, rounded | negative},
		// The greatest number, and what is above it.
		{2147483646.5, 0, 2147483646, rounded},
		{math.Nextafter(most, 0), 0, most, rounded},
		{most, 0, most, 0},
		{math.Nextafter(most, inf), 0, most, rounded},
		{2147483647.25, 0, most, rounded},
		{math.Nextafter(2147483647.5, 0), 0, most, rounded},
		{math.Nextafter(2147483647.5, inf), 0, most, clipped},
		{2147483648, 0, most, clipped},
		{1, 30, 1 << 30, 0},
		{1, 64, most, clipped},
		{math.MaxFloat64, -64, most, clipped},
		{math.MaxFloat64, 0, most, clipped},
		{math.MaxFloat64, 64, most, clipped},
		{inf, -64, most, clipped},
		{inf, 64, most, clipped},
		// The least one, and what is below it.
		{-2147483647.5, 0, least, rounded},
		{math.Nextafter(least, 0), 0, least, rounded},
		{least, 0, least, 0},
		{math.Nextafter(least, -inf), 0, least, rounded},
		{-2147483648.5, 0, least, rounded},
		{math.Nextafter(-2147483648.5, 0), 0, least, rounded},
		{math.Nextafter(-2147483648.5, -inf), 0, least, clipped},
		{-2147483649, 0, least, clipped},
		{-1, 32, least, clipped},
		{-math.MaxFloat64, -64, least, clipped},
		{-math.MaxFloat64, 64, least, clipped},
		{-inf, 0, least, clipped},
		{-inf, -64, least, clipped},
		{-inf, 64, least, clipped},
	} {
		becomes(t, bitsOf(c.v), c.scale, c.n, c.mark)
		asInTheWords(t, bitsOf(c.v), c.scale)
	}
}

func TestQuantIsTheWordsWayAtTheEdges(t *testing.T) {
	for _, scale := range scales() {
		for _, x := range append(numbers(), around(scale)...) {
			asInTheWords(t, x, scale)
		}
	}
}

func TestQuantIsTheWordsWayOfDrawnOnes(t *testing.T) {
	r := rand.New(rand.NewSource(2))
	for range 60000 {
		scale := r.Intn(2*api.MaxScale+1) - api.MaxScale
		asInTheWords(t, near(r, scale), scale)
	}
}

func refused(t *testing.T, x uint64, scale int, want api.Errno) {
	t.Helper()
	if n, mark, err := quant.Quant(x, scale); n != 0 || mark != 0 || err != want {
		t.Errorf("Quant of %x with %d: %d, marks %d, error %d, not 0, marks 0, error %d", x, scale, n, mark, err, want)
	}
}

func TestQuantRefusesNaNs(t *testing.T) {
	for _, x := range nans() {
		for _, scale := range scales() {
			refused(t, x, scale, api.ErrNaN)
		}
	}
}

// What is no scale is refused ahead of a NaN, and whatever the float is.
func TestQuantRefusesNoScales(t *testing.T) {
	for _, x := range floats() {
		for _, scale := range noScales() {
			refused(t, x, scale, api.ErrArg)
		}
	}
}

// P3.3

func TestBackKnown(t *testing.T) {
	for _, c := range []struct {
		v     int32
		scale int
		want  float64
	}{
		{3, 2, 0.75},
		{-1, -64, -0x1p64},
		{0, 0, 0},
		{0, 64, 0},
		{0, -64, 0},
		{1, 0, 1},
		{-1, 0, -1},
		{1, 64, 0x1p-64},
		{most, 0, 2147483647},
		{least, 0, -2147483648},
		{most, 64, 2147483647 * 0x1p-64},
		{least, 64, -0x1p-33},
		{most, -64, 2147483647 * 0x1p64},
		{least, -64, -0x1p95},
	} {
		if x, err := quant.Back(c.v, c.scale); x != bitsOf(c.want) || err != api.OK {
			t.Errorf("Back of %d with %d: %x, error %d, not %x", c.v, c.scale, x, err, bitsOf(c.want))
		}
	}
}

// wholes is whole numbers: the edges, and drawn ones of all sizes.
func wholes(r *rand.Rand) []int32 {
	l := []int32{0, 1, -1, 2, -2, 3, most, most - 1, least, least + 1}
	for i := range 31 {
		l = append(l, 1<<i, -1<<i, 1<<i+1, 1<<i-1, int32(r.Uint32())>>i)
	}
	return l
}

func TestBackIsTheWordsWay(t *testing.T) {
	r := rand.New(rand.NewSource(3))
	for _, v := range wholes(r) {
		for _, scale := range scales() {
			x, err := quant.Back(v, scale)
			if k := slowKind(x); err != api.OK || k == api.KindNaN || k == api.KindInfinite || x == sign {
				t.Fatalf("Back of %d with %d: %x, error %d", v, scale, x, err)
			}
			want := new(big.Rat).Mul(new(big.Rat).SetInt64(int64(v)), twoTo(-scale))
			if got := slowValue(x); got.Cmp(want) != 0 {
				t.Errorf("Back of %d with %d: %s, not %s", v, scale, got, want)
			}
		}
	}
}

func TestBackRefusesNoScales(t *testing.T) {
	for _, v := range []int32{0, 1, -1, most, least} {
		for _, scale := range noScales() {
			if x, err := quant.Back(v, scale); x != 0 || err != api.ErrArg {
				t.Errorf("Back of %d with %d: %x, error %d", v, scale, x, err)
			}
		}
	}
}

// P3.4

// allRefused tells it, if a list is not refused so.
func allRefused(t *testing.T, what string, l []uint64, scale, place int, want api.Errno) {
	t.Helper()
	if out, marks, at, err := quant.All(l, scale); len(out) != 0 || marks != 0 || at != place || err != want {
		t.Errorf("All of %s with %d: %d numbers, marks %d, place %d, error %d, not none, 0, %d, %d", what, scale, len(out), marks, at, err, place, want)
	}
}

// allAre tells it, if a list does not become those numbers with those marks.
func allAre(t *testing.T, l []uint64, scale int, want []int32, mark api.Mark) {
	t.Helper()
	if out, marks, at, err := quant.All(l, scale); !slices.Equal(out, want) || marks != mark || at != 0 || err != api.OK {
		t.Errorf("All of %x with %d: %d, marks %d, place %d, error %d, not %d, marks %d", l, scale, out, marks, at, err, want, mark)
	}
}

// many is n floats of all sizes, with no NaN.
func many(r *rand.Rand, n, scale int) []uint64 {
	l := make([]uint64, n)
	for i := range l {
		for l[i] = near(r, scale); slowKind(l[i]) == api.KindNaN; {
			l[i] = near(r, scale)
		}
	}
	return l
}

func TestAllKnown(t *testing.T) {
	one, half, nought, inf := bitsOf(1), bitsOf(0.5), uint64(0), uint64(infinite)
	const rounded, clipped, negative = api.MarkRounded, api.MarkClipped, api.MarkNegative
	for _, c := range []struct {
		l     []uint64
		scale int
		want  []int32
		mark  api.Mark
	}{
		// Each mark alone, and marks together.
		{[]uint64{one}, 0, []int32{1}, 0},
		{[]uint64{half}, 0, []int32{0}, rounded},
		{[]uint64{inf}, 0, []int32{most}, clipped},
		{[]uint64{nought | sign}, 0, []int32{0}, negative},
		{[]uint64{half | sign}, 0, []int32{0}, rounded | negative},
		{[]uint64{one, half, one}, 0, []int32{1, 0, 1}, rounded},
		{[]uint64{half, nought | sign}, 0, []int32{0, 0}, rounded | negative},
		{[]uint64{inf | sign, nought | sign}, 0, []int32{least, 0}, clipped | negative},
		{[]uint64{inf | sign, half}, 0, []int32{least, 0}, rounded | clipped},
		{[]uint64{half | sign, inf, one}, 0, []int32{0, most, 1}, rounded | clipped | negative},
		{[]uint64{half, half, half}, 0, []int32{0, 0, 0}, rounded},
		{[]uint64{half, half | sign, one | sign}, 1, []int32{1, -1, -2}, 0},
	} {
		allAre(t, c.l, c.scale, c.want, c.mark)
	}
}

func TestAllIsQuantOfEach(t *testing.T) {
	r := rand.New(rand.NewSource(4))
	for _, n := range []int{1, 2, 3, 100, api.MaxDim - 1, api.MaxDim} {
		for _, scale := range []int{-api.MaxScale, -7, 0, 1, 30, api.MaxScale} {
			l := many(r, n, scale)
			want := make([]int32, n)
			var marks api.Mark
			for i, x := range l {
				var mark api.Mark
				want[i], mark = slowQuant(x, scale)
				marks |= mark
			}
			allAre(t, l, scale, want, marks)
		}
	}
}

func TestAllRefusesNoDimensions(t *testing.T) {
	r := rand.New(rand.NewSource(5))
	long := many(r, api.MaxDim+1, 0)
	for _, scale := range []int{-api.MaxScale, 0, api.MaxScale} {
		allRefused(t, "a nil list", nil, scale, 0, api.ErrDim)
		allRefused(t, "an empty list", []uint64{}, scale, 0, api.ErrDim)
		allRefused(t, "no elements of some room", make([]uint64, 0, 9), scale, 0, api.ErrDim)
		allRefused(t, "one too many", long, scale, 0, api.ErrDim)
		allRefused(t, "far too many", make([]uint64, 100000), scale, 0, api.ErrDim)
	}
	// Its length ahead of a NaN in it.
	for _, i := range []int{0, 1, 7, api.MaxDim} {
		l := slices.Clone(long)
		l[i] = nans()[0]
		allRefused(t, "one too many with a NaN", l, 0, 0, api.ErrDim)
	}
}

func TestAllRefusesNaNs(t *testing.T) {
	one, nan := bitsOf(1), nans()[0]
	allRefused(t, "1, a NaN, a NaN", []uint64{one, nan, nan}, 0, 1, api.ErrNaN)
	r := rand.New(rand.NewSource(6))
	for _, x := range nans() {
		for _, scale := range []int{-api.MaxScale, 0, api.MaxScale} {
			allRefused(t, "a NaN alone", []uint64{x}, scale, 0, api.ErrNaN)
			for _, n := range []int{3, 50, api.MaxDim} {
				l := many(r, n, scale)
				l[n-1] = x
				allRefused(t, "a NaN last", l, scale, n-1, api.ErrNaN)
				l[n/2] = x
				allRefused(t, "a NaN between, and last", l, scale, n/2, api.ErrNaN)
				l[0] = x
				allRefused(t, "a NaN first, between, and last", l, scale, 0, api.ErrNaN)
			}
		}
	}
	// Infinite ones are none.
	allAre(t, []uint64{infinite, infinite | sign}, 0, []int32{most, least}, api.MarkClipped)
}

// What is no scale is refused ahead of a list's length, and of a NaN in it.
func TestAllRefusesNoScales(t *testing.T) {
	nan := nans()[0]
	for _, scale := range noScales() {
		allRefused(t, "a nil list", nil, scale, 0, api.ErrArg)
		allRefused(t, "one too many", make([]uint64, api.MaxDim+1), scale, 0, api.ErrArg)
		allRefused(t, "1, a NaN", []uint64{bitsOf(1), nan}, scale, 0, api.ErrArg)
		allRefused(t, "1", []uint64{bitsOf(1)}, scale, 0, api.ErrArg)
	}
}

// P3.5

// rising is floats in their order, each once, told by hand.
func rising() []uint64 {
	up := []uint64{0, 1, 2, leastNormal - 1, leastNormal, bitsOf(0.5), bitsOf(1), bitsOf(1) + 1, bitsOf(1e300), infinite - 1, infinite, infinite + 1, infinite | 1<<51, sign - 1}
	down := withSign(up)
	slices.Reverse(down)
	return append(down, up...)
}

func TestTotalKnown(t *testing.T) {
	l := rising()
	for i, a := range l {
		for j, b := range l {
			want := 0
			if i < j {
				want = -1
			} else if i > j {
				want = 1
			}
			if c := quant.Total(a, b); c != want {
				t.Errorf("Total of %x and %x: %d, not %d", a, b, c, want)
			}
		}
	}
}

// slowTotal is the order of floats as the chapter's words have it.
func slowTotal(a, b uint64) int {
	restA, restB := a%sign, b%sign
	switch {
	case a == b:
		return 0
	case a >= sign && b < sign:
		return -1
	case a < sign && b >= sign:
		return 1
	case a >= sign && restA > restB, a < sign && restA < restB:
		return -1
	}
	return 1
}

func TestTotalIsTheWordsWay(t *testing.T) {
	r := rand.New(rand.NewSource(7))
	l := floats()
	for range 300 {
		l = append(l, r.Uint64(), near(r, 0))
	}
	for _, a := range l {
		for _, b := range l {
			if c, want := quant.Total(a, b), slowTotal(a, b); c != want {
				t.Fatalf("Total of %x and %x: %d, not %d", a, b, c, want)
			}
			// Where both have values that are not the same, the order is that of the values.
			v, w := math.Float64frombits(a), math.Float64frombits(b)
			if c := quant.Total(a, b); v < w && c != -1 || v > w && c != 1 {
				t.Fatalf("Total of %g and %g: %d", v, w, c)
			}
		}
	}
}

func TestSortedKnown(t *testing.T) {
	for _, l := range [][]uint64{nil, {}, make([]uint64, 0, 9)} {
		if out := quant.Sorted(l); len(out) != 0 {
			t.Errorf("Sorted of none: %x", out)
		}
	}
	nan, inf := uint64(infinite+5), uint64(infinite)
	l := []uint64{nan, 0, inf, sign, nan | sign, bitsOf(-1), inf | sign, bitsOf(1), 0, sign, nan}
	want := []uint64{nan | sign, inf | sign, bitsOf(-1), sign, sign, 0, 0, bitsOf(1), inf, nan, nan}
	if out := quant.Sorted(l); !slices.Equal(out, want) {
		t.Errorf("Sorted of %x: %x, not %x", l, out, want)
	}
	if out := quant.Sorted([]uint64{nan}); !slices.Equal(out, []uint64{nan}) {
		t.Errorf("Sorted of a NaN: %x", out)
	}
}

// What is sorted is in order, and the same floats as often.
func TestSortedIsInOrder(t *testing.T) {
	r := rand.New(rand.NewSource(8))
	for _, n := range []int{1, 2, 3, 5, 30, 1000, 5000} {
		l := make([]uint64, n)
		for i := range l {
			l[i] = near(r, 0)
			if r.Intn(2) == 0 {
				l[i] = floats()[r.Intn(len(floats()))]
			}
		}
		out := quant.Sorted(l)
		times := map[uint64]int{}
		for _, x := range l {
			times[x]++
		}
		for i, x := range out {
			times[x]--
			if i > 0 && slowTotal(out[i-1], x) > 0 {
				t.Errorf("Sorted: %x stands ahead of %x", out[i-1], x)
			}
		}
		for x, n := range times {
			if n != 0 {
				t.Errorf("Sorted: %x is there %d times too few", x, n)
			}
		}
		if again := quant.Sorted(out); !slices.Equal(again, out) {
			t.Error("what was sorted, sorted again, is another")
		}
	}
	l := rising()
	r.Shuffle(len(l), func(i, j int) { l[i], l[j] = l[j], l[i] })
	if out := quant.Sorted(l); !slices.Equal(out, rising()) {
		t.Errorf("Sorted: %x", out)
	}
}

// P3.6

func TestQuantOfBackIsTheNumber(t *testing.T) {
	r := rand.New(rand.NewSource(9))
	for _, v := range wholes(r) {
		for _, scale := range scales() {
			x, err := quant.Back(v, scale)
			if err != api.OK {
				t.Fatalf("Back of %d with %d: error %d", v, scale, err)
			}
			becomes(t, x, scale, v, 0)
			if out, marks, at, err := quant.All([]uint64{x}, scale); !slices.Equal(out, []int32{v}) || marks != 0 || at != 0 || err != api.OK {
				t.Errorf("All of Back of %d with %d: %d, marks %d, place %d, error %d", v, scale, out, marks, at, err)
			}
		}
	}
}

// A float without a mark is what its number stands for.
func TestBackOfQuantWithoutMarks(t *testing.T) {
	r := rand.New(rand.NewSource(10))
	for _, scale := range scales() {
		l := append(numbers(), around(scale)...)
		for range 300 {
			l = append(l, near(r, scale))
		}
		for _, x := range l {
			n, mark, err := quant.Quant(x, scale)
			if back, _ := quant.Back(n, scale); err == api.OK && (back == x) != (mark == 0) {
				t.Errorf("Quant of %x with %d: %d with marks %d, back %x", x, scale, n, mark, back)
			}
		}
	}
}

func TestTheGreaterNeverBecomesLess(t *testing.T) {
	r := rand.New(rand.NewSource(11))
	for _, scale := range scales() {
		l := append(numbers(), around(scale)...)
		l = append(l, many(r, 200, scale)...)
		slices.SortFunc(l, slowTotal)
		last := int32(least)
		for _, x := range l {
			n, _, err := quant.Quant(x, scale)
			if n < last || err != api.OK {
				t.Errorf("Quant of %x with %d: %d, error %d, less than %d of one ahead of it", x, scale, n, err, last)
			}
			last = n
		}
	}
}

func TestTheOppositeBecomesTheOpposite(t *testing.T) {
	r := rand.New(rand.NewSource(12))
	for _, scale := range scales() {
		l := append(numbers(), around(scale)...)
		l = append(l, many(r, 200, scale)...)
		for _, x := range l {
			n, _, err := quant.Quant(x, scale)
			m, _, errM := quant.Quant(x^sign, scale)
			if err != api.OK || errM != api.OK {
				t.Fatalf("Quant of %x, and of its opposite, with %d: errors %d, %d", x, scale, err, errM)
			}
			if n != least && m != least && n != -m {
				t.Errorf("Quant of %x with %d: %d, of its opposite %d", x, scale, n, m)
			}
			if m == least && n != most || n == least && m != most {
				t.Errorf("Quant of %x with %d: %d, of its opposite %d", x, scale, n, m)
			}
		}
	}
}

// P1

// What is handed in, and the room around it, stays; an answer shares no memory
// with it, nor with another answer.
func TestListsAreLeftAndAnswersAreNew(t *testing.T) {
	r := rand.New(rand.NewSource(13))
	for _, n := range []int{1, 2, 40, 1000} {
		around := many(r, n+20, 3)
		l := around[10 : 10+n]
		kept := slices.Clone(around)
		one, _, _, _ := quant.All(l, 3)
		two, _, _, _ := quant.All(l, 3)
		first, second := quant.Sorted(l), quant.Sorted(l)
		wantAll, wantSorted := slices.Clone(one), slices.Clone(first)
		clear(two[:cap(two)])
		clear(second[:cap(second)])
		if !slices.Equal(around, kept) {
			t.Errorf("a list of %d is another now", n)
		}
		for i := range around {
			around[i] = 99
		}
		if !slices.Equal(one, wantAll) || !slices.Equal(first, wantSorted) {
			t.Errorf("answers of a list of %d share memory", n)
		}
		clear(first[:cap(first)])
		for _, x := range around {
			if x != 99 {
				t.Fatalf("an answer of a list of %d shares memory with it", n)
			}
		}
	}
}

// What was sorted already is new memory all the same, and refused lists stay.
func TestListsAreLeftWhereNothingIsToBeDone(t *testing.T) {
	l := rising()
	out := quant.Sorted(l)
	clear(out)
	if !slices.Equal(l, rising()) {
		t.Error("Sorted of what is in order shares memory with it")
	}
	quant.All(l, 0)
	quant.All(l, api.MaxScale+1)
	if !slices.Equal(l, rising()) {
		t.Error("All of a list with NaNs changes it")
	}
	long := make([]uint64, api.MaxDim+1)
	quant.All(long, 0)
	if !slices.Equal(long, make([]uint64, api.MaxDim+1)) {
		t.Error("All of a list that is too long changes it")
	}
}

// Many callers at once tell the same as one alone.
func TestCallsKnowNothingOfEachOther(t *testing.T) {
	r := rand.New(rand.NewSource(14))
	l := many(r, 500, 5)
	want, marks, _, _ := quant.All(l, 5)
	order := quant.Sorted(l)
	var all sync.WaitGroup
	for range 8 {
		all.Go(func() {
			for range 20 {
				quant.All(l, -9)
				quant.Quant(nans()[0], 5)
				out, mark, at, err := quant.All(l, 5)
				if !slices.Equal(out, want) || mark != marks || at != 0 || err != api.OK || !slices.Equal(quant.Sorted(l), order) {
					t.Error("All or Sorted tells another, called beside others")
				}
			}
		})
	}
	all.Wait()
}
