package vect_test

import (
	"fmt"
	"math"
	"math/big"
	"math/rand"
	"slices"
	"sync"
	"testing"

	"vicinage/api"
	"vicinage/vect"
)

const (
	most  = math.MaxInt32
	least = math.MinInt32
)

// all is a vector of n components that are the same.
func all(n int, x int32) []int32 {
	v := make([]int32, n)
	for i := range v {
		v[i] = x
	}
	return v
}

// component draws one: an edge, one next to nought, or anything.
func component(r *rand.Rand) int32 {
	switch r.Intn(4) {
	case 0:
		return []int32{least, least + 1, -1, 0, 1, most - 1, most}[r.Intn(7)]
	case 1:
		return int32(r.Intn(7) - 3)
	}
	return int32(r.Uint32()) >> r.Intn(32)
}

func vector(r *rand.Rand, n int) []int32 {
	v := make([]int32, n)
	for i := range v {
		v[i] = component(r)
	}
	return v
}

// dims is dimensions: the least, the greatest, and some between.
func dims() []int { return []int{1, 2, 3, 4, 7, 16, 100, 1000, api.MaxDim - 1, api.MaxDim} }

// slowDist is how far two vectors are, by numbers of any size.
func slowDist(a, b []int32) *big.Int {
	sum := new(big.Int)
	for i := range a {
		d := new(big.Int).Sub(big.NewInt(int64(a[i])), big.NewInt(int64(b[i])))
		sum.Add(sum, d.Abs(d))
	}
	return sum
}

// dist is Dist where no error may be.
func dist(t *testing.T, a, b []int32) int64 {
	t.Helper()
	d, err := vect.Dist(a, b)
	if err != api.OK {
		t.Fatalf("Dist of vectors of the dimensions %d and %d: error %d", len(a), len(b), err)
	}
	return d
}

// P4.1

func TestDistKnown(t *testing.T) {
	for _, c := range []struct {
		a, b []int32
		want int64
	}{
		// The chapter's examples.
		{[]int32{1, -2}, []int32{4, 2}, 7},
		{[]int32{least}, []int32{most}, 4294967295},
		// One component.
		{[]int32{0}, []int32{0}, 0},
		{[]int32{5}, []int32{5}, 0},
		{[]int32{5}, []int32{6}, 1},
		{[]int32{6}, []int32{5}, 1},
		{[]int32{-5}, []int32{5}, 10},
		{[]int32{-5}, []int32{-9}, 4},
		{[]int32{most}, []int32{least}, 4294967295},
		{[]int32{least}, []int32{least}, 0},
		{[]int32{most}, []int32{most}, 0},
		{[]int32{least}, []int32{0}, 2147483648},
		{[]int32{0}, []int32{least}, 2147483648},
		{[]int32{most}, []int32{0}, 2147483647},
		{[]int32{most}, []int32{-1}, 2147483648},
		{[]int32{1}, []int32{least}, 2147483649},
		// Differences add up, whatever their signs are.
		{[]int32{1, 2, 3}, []int32{3, 2, 1}, 4},
		{[]int32{1, 0}, []int32{0, 1}, 2},
		{[]int32{10, -10}, []int32{-10, 10}, 40},
		{[]int32{least, most}, []int32{most, least}, 8589934590},
		{[]int32{least, least, 0}, []int32{most, most, 0}, 8589934590},
		{[]int32{3, 4}, []int32{0, 0}, 7},
		// As many as may be, and as far as can be.
		{all(api.MaxDim, least), all(api.MaxDim, most), 4096 * 4294967295},
		{all(api.MaxDim, most), all(api.MaxDim, least), 4096 * 4294967295},
		{all(api.MaxDim, least), all(api.MaxDim, least), 0},
		{all(api.MaxDim, most), all(api.MaxDim, most), 0},
		{all(api.MaxDim, least), all(api.MaxDim, 0), 4096 * 2147483648},
		{all(api.MaxDim, 1), all(api.MaxDim, -1), 8192},
		{all(api.MaxDim-1, least), all(api.MaxDim-1, most), 4095 * 4294967295},
	} {
		if d, err := vect.Dist(c.a, c.b); d != c.want || err != api.OK {
			t.Errorf("Dist of %d and %d components from %d and %d on: %d, error %d, not %d", len(c.a), len(c.b), c.a[0], c.b[0], d, err, c.want)
		}
	}
}

func TestDistIsTheWordsWay(t *testing.T) {
	r := rand.New(rand.NewSource(1))
	for _, n := range dims() {
		for range max(3, 3000/n) {
			a, b := vector(r, n), vector(r, n)
			if d, want := dist(t, a, b), slowDist(a, b); want.Cmp(big.NewInt(d)) != 0 {
				t.Errorf("Dist of %d and %d: %d, not %s", a, b, d, want)
			}
		}
	}
}

// Each component counts, wherever it stands.
func TestDistGoesOverAllComponents(t *testing.T) {
	for _, n := range dims() {
		a := all(n, 3)
		for i := range n {
			b := slices.Clone(a)
			b[i] = -4
			if d := dist(t, a, b); d != 7 {
				t.Fatalf("Dist of %d components of which number %d is 7 far: %d", n, i, d)
			}
		}
	}
}

func TestDistRefusesWhatIsNoPairOfVectors(t *testing.T) {
	lists := [][]int32{nil, {}, make([]int32, 0, 9), {1}, {1, 2}, {1, 2, 3}, all(api.MaxDim-1, 1), all(api.MaxDim, 1), all(api.MaxDim+1, 1), all(api.MaxDim+2, 1), all(70000, 1)}
	for _, a := range lists {
		for _, b := range lists {
			if len(a) == len(b) && len(a) >= 1 && len(a) <= api.MaxDim {
				dist(t, a, b)
				continue
			}
			if d, err := vect.Dist(a, b); d != 0 || err != api.ErrDim {
				t.Errorf("Dist of %d and %d components: %d, error %d, not 0, ErrDim", len(a), len(b), d, err)
			}
		}
	}
	// Also where components are far from each other.
	for _, n := range []int{1, 5, api.MaxDim} {
		if d, err := vect.Dist(all(n+1, least), all(n, most)); d != 0 || err != api.ErrDim {
			t.Errorf("Dist of %d and %d components: %d, error %d, not 0, ErrDim", n+1, n, d, err)
		}
	}
	if d, err := vect.Dist(all(api.MaxDim+1, least), all(api.MaxDim+1, most)); d != 0 || err != api.ErrDim {
		t.Errorf("Dist of one component too many: %d, error %d, not 0, ErrDim", d, err)
	}
}

// P4.2

func hit(key uint64, far int64) api.Hit { return api.Hit{Key: key, Dist: far} }

// rising is hits in their order, each once, told by hand.
func rising() []api.Hit {
	return []api.Hit{
		hit(0, math.MinInt64), hit(1, math.MinInt64), hit(math.MaxUint64, math.MinInt64),
		hit(7, math.MinInt64+1),
		hit(3, -5), hit(2, -1), hit(1<<63, -1),
		hit(0, 0), hit(1, 0), hit(2, 0), hit(1<<32, 0), hit(math.MaxInt64, 0), hit(1<<63, 0), hit(1<<63+1, 0), hit(math.MaxUint64-1, 0), hit(math.MaxUint64, 0),
		hit(0, 1), hit(9, 1), hit(2, 3), hit(5, 3),
		hit(0, 1<<31), hit(0, 1<<32), hit(1, 1<<32), hit(0, 1<<45),
		hit(math.MaxUint64, math.MaxInt64-1), hit(0, math.MaxInt64), hit(1<<63, math.MaxInt64), hit(math.MaxUint64, math.MaxInt64),
	}
}

// anyHit draws a hit: of few, so that many are the same, or have one key or one distance; or of all.
func anyHit(r *rand.Rand) api.Hit {
	switch r.Intn(4) {
	case 0:
		return rising()[r.Intn(len(rising()))]
	case 1:
		return hit(r.Uint64(), int64(r.Uint64()))
	}
	return hit(uint64(r.Intn(4)), int64(r.Intn(5)-1))
}

func hits(r *rand.Rand, n int) []api.Hit {
	l := make([]api.Hit, n)
	for i := range l {
		l[i] = anyHit(r)
	}
	return l
}

// ahead tells whether a stands ahead of b, as the chapter's words have it.
func ahead(a, b api.Hit) bool { return a.Dist < b.Dist || a.Dist == b.Dist && a.Key < b.Key }

func slowOrder(a, b api.Hit) int {
	switch {
	case ahead(a, b):
		return -1
	case ahead(b, a):
		return 1
	}
	return 0
}

// slowFirst takes away the hit of which none stands ahead, k times.
func slowFirst(l []api.Hit, k int) []api.Hit {
	rest := slices.Clone(l)
	var out []api.Hit
	for len(out) < k && len(rest) > 0 {
		at := 0
		for i := range rest {
			if ahead(rest[i], rest[at]) {
				at = i
			}
		}
		out = append(out, rest[at])
		rest = slices.Delete(rest, at, at+1)
	}
	return out
}

// counts is how many may be asked for, of a list of n.
func counts(n int) []int {
	return []int{math.MinInt, math.MinInt32, -n, -1, 0, 1, 2, n / 2, n - 1, n, n + 1, n + 2, 2 * n, 1 << 31, 1 << 32, math.MaxInt - 1, math.MaxInt}
}

func TestOrderKnown(t *testing.T) {
	l := rising()
	for i, a := range l {
		for j, b := range l {
			want := 0
			if i < j {
				want = -1
			} else if i > j {
				want = 1
			}
			if c := vect.Order(a, b); c != want {
				t.Errorf("Order of %v and %v: %d, not %d", a, b, c, want)
			}
		}
	}
}

func TestOrderIsTheWordsWay(t *testing.T) {
	r := rand.New(rand.NewSource(2))
	for range 50000 {
		a, b := anyHit(r), anyHit(r)
		if c, want := vect.Order(a, b), slowOrder(a, b); c != want {
			t.Fatalf("Order of %v and %v: %d, not %d", a, b, c, want)
		}
	}
}

// firstIs tells it, if First is not what is wanted.
func firstIs(t *testing.T, l []api.Hit, k int, want []api.Hit) {
	t.Helper()
	if got := vect.First(l, k); !slices.Equal(got, want) {
		t.Errorf("First %d of %v: %v, not %v", k, l, got, want)
	}
}

// mergeIs tells it, if Merge is not what is wanted.
func mergeIs(t *testing.T, a, b []api.Hit, k int, want []api.Hit) {
	t.Helper()
	if got := vect.Merge(a, b, k); !slices.Equal(got, want) {
		t.Errorf("Merge %d of %v and %v: %v, not %v", k, a, b, got, want)
	}
}

func TestFirstKnown(t *testing.T) {
	l := []api.Hit{hit(5, 3), hit(2, 3), hit(9, 1)}
	firstIs(t, l, 2, []api.Hit{hit(9, 1), hit(2, 3)})
	firstIs(t, l, 1, []api.Hit{hit(9, 1)})
	for _, k := range []int{3, 4, 1000, math.MaxInt} {
		firstIs(t, l, k, []api.Hit{hit(9, 1), hit(2, 3), hit(5, 3)})
	}
	for _, k := range []int{0, -1, -3, math.MinInt} {
		firstIs(t, l, k, nil)
	}
	// One key and different distances.
	firstIs(t, []api.Hit{hit(4, 9), hit(4, -2), hit(4, 0)}, 2, []api.Hit{hit(4, -2), hit(4, 0)})
	// The same hit several times: each as often as it is there.
	same := []api.Hit{hit(8, 2), hit(1, 5), hit(8, 2), hit(8, 2), hit(1, 5)}
	firstIs(t, same, 2, []api.Hit{hit(8, 2), hit(8, 2)})
	firstIs(t, same, 4, []api.Hit{hit(8, 2), hit(8, 2), hit(8, 2), hit(1, 5)})
	firstIs(t, same, 5, []api.Hit{hit(8, 2), hit(8, 2), hit(8, 2), hit(1, 5), hit(1, 5)})
	firstIs(t, same, 6, []api.Hit{hit(8, 2), hit(8, 2), hit(8, 2), hit(1, 5), hit(1, 5)})
	// The greatest key is behind all others, but ahead of what is farther.
	firstIs(t, []api.Hit{hit(math.MaxUint64, 0), hit(0, 1), hit(1, 0)}, 3, []api.Hit{hit(1, 0), hit(math.MaxUint64, 0), hit(0, 1)})
	// One hit, and a hit of noughts.
	firstIs(t, []api.Hit{hit(6, 6)}, 1, []api.Hit{hit(6, 6)})
	firstIs(t, []api.Hit{{}}, 9, []api.Hit{{}})
	// None.
	for _, none := range [][]api.Hit{nil, {}, make([]api.Hit, 0, 9)} {
		for _, k := range counts(3) {
			firstIs(t, none, k, nil)
		}
	}
}

func TestFirstIsTheWordsWay(t *testing.T) {
	r := rand.New(rand.NewSource(3))
	for _, n := range []int{0, 1, 2, 3, 5, 11, 12, 13, 30, 100, 300} {
		for range max(2, 100/(n+1)) {
			l := hits(r, n)
			for _, k := range append(counts(n), r.Intn(n+2)) {
				firstIs(t, l, k, slowFirst(l, k))
			}
		}
	}
}

// Whatever order they come in, the first ones are the same.
func TestFirstOfAnyOrder(t *testing.T) {
	r := rand.New(rand.NewSource(4))
	l := rising()
	for range 50 {
		r.Shuffle(len(l), func(i, j int) { l[i], l[j] = l[j], l[i] })
		for k := range len(l) + 1 {
			firstIs(t, l, k, rising()[:k])
		}
	}
	l = rising()
	firstIs(t, l, len(l), rising())
	slices.Reverse(l)
	firstIs(t, l, len(l), rising())
}

func TestFirstOfMany(t *testing.T) {
	r := rand.New(rand.NewSource(5))
	l := hits(r, 50000)
	want := slices.SortedFunc(slices.Values(l), slowOrder)
	for _, k := range []int{1, 50, 49999, 50000, 50001, math.MaxInt} {
		if got := vect.First(l, k); !slices.Equal(got, want[:min(k, len(want))]) {
			t.Errorf("First %d of many is another", k)
		}
		if got := vect.Merge(l[:20000], l[20000:], k); !slices.Equal(got, want[:min(k, len(want))]) {
			t.Errorf("Merge %d of many is another", k)
		}
	}
}

func TestMergeKnown(t *testing.T) {
	a, b := []api.Hit{hit(9, 1), hit(5, 3)}, []api.Hit{hit(7, 0), hit(2, 3)}
	together := []api.Hit{hit(7, 0), hit(9, 1), hit(2, 3), hit(5, 3)}
	for k := range 5 {
		mergeIs(t, a, b, k, together[:k])
		mergeIs(t, b, a, k, together[:k])
	}
	mergeIs(t, a, b, 5, together)
	mergeIs(t, a, b, math.MaxInt, together)
	mergeIs(t, a, b, -1, nil)
	mergeIs(t, a, b, math.MinInt, nil)
	// Lists that are not in order themselves.
	mergeIs(t, []api.Hit{hit(5, 3), hit(9, 1)}, []api.Hit{hit(2, 3), hit(7, 0)}, 3, together[:3])
	// Hits that are in both, or in one several times: each as often as it is there.
	mergeIs(t, a, a, 3, []api.Hit{hit(9, 1), hit(9, 1), hit(5, 3)})
	mergeIs(t, []api.Hit{hit(4, 4), hit(4, 4)}, []api.Hit{hit(4, 4)}, 9, []api.Hit{hit(4, 4), hit(4, 4), hit(4, 4)})
	mergeIs(t, []api.Hit{hit(4, 4), hit(3, 4)}, []api.Hit{hit(4, 4), hit(4, -4)}, 9, []api.Hit{hit(4, -4), hit(3, 4), hit(4, 4), hit(4, 4)})
	// One far ahead of the other.
	mergeIs(t, []api.Hit{hit(1, math.MaxInt64)}, []api.Hit{hit(1, math.MinInt64)}, 1, []api.Hit{hit(1, math.MinInt64)})
	mergeIs(t, []api.Hit{hit(math.MaxUint64, 2)}, []api.Hit{hit(0, 2)}, 1, []api.Hit{hit(0, 2)})
	// None on one side, or on both.
	for _, none := range [][]api.Hit{nil, {}, make([]api.Hit, 0, 9)} {
		mergeIs(t, a, none, 2, a)
		mergeIs(t, none, a, 2, a)
		mergeIs(t, a, none, 1, a[:1])
		mergeIs(t, none, []api.Hit{hit(5, 3), hit(9, 1)}, 9, a)
		for _, k := range counts(3) {
			mergeIs(t, none, nil, k, nil)
			mergeIs(t, nil, none, k, nil)
		}
	}
}

func TestMergeIsTheWordsWay(t *testing.T) {
	r := rand.New(rand.NewSource(6))
	for _, n := range []int{0, 1, 2, 3, 13, 50, 150} {
		for _, m := range []int{0, 1, 2, 12, 100} {
			a, b := hits(r, n), hits(r, m)
			both := append(slices.Clone(a), b...)
			for _, k := range append(append(counts(n), counts(m)...), append(counts(n+m), r.Intn(n+m+2))...) {
				want := slowFirst(both, k)
				mergeIs(t, a, b, k, want)
				mergeIs(t, b, a, k, want)
			}
		}
	}
}

// The first ones of pieces, merged, are the first ones of the whole.
func TestMergeOfFirsts(t *testing.T) {
	r := rand.New(rand.NewSource(7))
	for range 500 {
		l := hits(r, r.Intn(40))
		at, k := r.Intn(len(l)+1), r.Intn(45)
		if got, want := vect.Merge(vect.First(l[:at], k), vect.First(l[at:], k), k), vect.First(l, k); !slices.Equal(got, want) {
			t.Errorf("of %v, cut at %d: %v, not %v", l, at, got, want)
		}
	}
}

// P4.3

// fars is numbers at all edges, below 0 too.
func fars(r *rand.Rand) []int64 {
	l := []int64{math.MinInt64, math.MinInt64 + 1, math.MinInt64 / 2, -1 << 32, -8, -2, -1, 0, 1, 2, 3, 8, 1<<31 - 1, 1 << 31, 1 << 32, 1 << 45, math.MaxInt64 / 2, math.MaxInt64/2 + 1, math.MaxInt64 - 1, math.MaxInt64}
	for range 60 {
		l = append(l, int64(r.Uint64())>>r.Intn(64))
	}
	return l
}

func TestLowKnown(t *testing.T) {
	for _, c := range []struct{ far, reach, want int64 }{
		{9, 4, 5},
		{4, 9, 0},
		{-1, 5, 0},
		{5, -1, 0},
		{5, -5, 0},
		{-5, -9, 0},
		{-1, -1, 0},
		{0, 0, 0},
		{7, 7, 0},
		{8, 7, 1},
		{7, 8, 0},
		{7, 0, 7},
		{0, 7, 0},
		{math.MaxInt64, 0, math.MaxInt64},
		{math.MaxInt64, 1, math.MaxInt64 - 1},
		{math.MaxInt64, math.MaxInt64, 0},
		{math.MaxInt64, math.MaxInt64 - 1, 1},
		{math.MaxInt64 - 1, math.MaxInt64, 0},
		{0, math.MaxInt64, 0},
		{math.MaxInt64, -1, 0},
		{-1, math.MaxInt64, 0},
		{math.MinInt64, math.MaxInt64, 0},
		{math.MaxInt64, math.MinInt64, 0},
		{math.MinInt64, 1, 0},
		{math.MinInt64, 0, 0},
		{0, math.MinInt64, 0},
		{math.MinInt64, math.MinInt64, 0},
	} {
		if d := vect.Low(c.far, c.reach); d != c.want {
			t.Errorf("Low(%d, %d): %d, not %d", c.far, c.reach, d, c.want)
		}
	}
}

func TestApartKnown(t *testing.T) {
	for _, c := range []struct{ a, b, want int64 }{
		{3, 8, 5},
		{8, -3, 0},
		{-3, -8, 0},
		{-1, -1, 0},
		{0, 0, 0},
		{7, 7, 0},
		{0, 7, 7},
		{7, 8, 1},
		{math.MaxInt64, 0, math.MaxInt64},
		{math.MaxInt64, 1, math.MaxInt64 - 1},
		{math.MaxInt64, math.MaxInt64 - 1, 1},
		{math.MaxInt64, math.MaxInt64, 0},
		{math.MaxInt64, -1, 0},
		{math.MinInt64, math.MaxInt64, 0},
		{math.MinInt64, 0, 0},
		{math.MinInt64, 1, 0},
		{math.MinInt64, -1, 0},
		{math.MinInt64, math.MinInt64, 0},
	} {
		if d := vect.Apart(c.a, c.b); d != c.want {
			t.Errorf("Apart(%d, %d): %d, not %d", c.a, c.b, d, c.want)
		}
		if d := vect.Apart(c.b, c.a); d != c.want {
			t.Errorf("Apart(%d, %d): %d, not %d", c.b, c.a, d, c.want)
		}
	}
}

// Both, held against numbers of any size.
func TestLowAndApartAreTheWordsWay(t *testing.T) {
	l := fars(rand.New(rand.NewSource(8)))
	for _, a := range l {
		for _, b := range l {
			low, apart := new(big.Int), new(big.Int)
			if a >= 0 && b >= 0 {
				low.Sub(big.NewInt(a), big.NewInt(b))
				apart.Abs(low)
			}
			if low.Sign() < 0 {
				low.SetInt64(0)
			}
			if d := vect.Low(a, b); low.Cmp(big.NewInt(d)) != 0 {
				t.Errorf("Low(%d, %d): %d, not %s", a, b, d, low)
			}
			if d := vect.Apart(a, b); apart.Cmp(big.NewInt(d)) != 0 {
				t.Errorf("Apart(%d, %d): %d, not %s", a, b, d, apart)
			}
		}
	}
}

// P4.4

// vectors is some of one dimension: the edges, drawn ones, and ones that
// differ in one component alone, or in none.
func vectors(r *rand.Rand, n int) [][]int32 {
	l := [][]int32{all(n, least), all(n, most), all(n, 0), all(n, 1), all(n, -1)}
	for range 12 {
		l = append(l, vector(r, n))
	}
	for range 8 {
		v := slices.Clone(l[r.Intn(len(l))])
		v[r.Intn(n)] = component(r)
		l = append(l, v)
	}
	return append(l, slices.Clone(l[0]), slices.Clone(l[7]))
}

// tables is how far all vectors of a list are from all.
func tables(t *testing.T, l [][]int32) [][]int64 {
	t.Helper()
	d := make([][]int64, len(l))
	for i, a := range l {
		for _, b := range l {
			d[i] = append(d[i], dist(t, a, b))
		}
	}
	return d
}

func TestFarIsAMetric(t *testing.T) {
	r := rand.New(rand.NewSource(9))
	for _, n := range dims() {
		l := vectors(r, n)
		d := tables(t, l)
		for i := range l {
			for j := range l {
				if d[i][j] < 0 || d[i][j] >= 1<<45 {
					t.Fatalf("%d is %d far from %d", l[i], d[i][j], l[j])
				}
				if (d[i][j] == 0) != slices.Equal(l[i], l[j]) {
					t.Fatalf("%d is %d far from %d", l[i], d[i][j], l[j])
				}
				if d[i][j] != d[j][i] {
					t.Fatalf("%d is %d far from %d, but %d back", l[i], d[i][j], l[j], d[j][i])
				}
				for k := range l {
					if d[i][k] > d[i][j]+d[j][k] {
						t.Fatalf("%d is %d far from %d, but %d and %d by %d", l[i], d[i][k], l[k], d[i][j], d[j][k], l[j])
					}
				}
			}
		}
	}
}

// No bound is above what is there, however far one looks.
func TestBoundsHold(t *testing.T) {
	r := rand.New(rand.NewSource(10))
	for _, n := range dims() {
		l := vectors(r, n)
		d := tables(t, l)
		for a := range l {
			for b := range l {
				for c := range l {
					for _, reach := range []int64{d[b][c], d[b][c] + 1, d[b][c] + int64(r.Intn(1000)), d[b][c] * 2, math.MaxInt64} {
						if low := vect.Low(d[a][b], reach); low < 0 || low > d[a][c] {
							t.Fatalf("Low(%d, %d) is %d, but one within it is %d far", d[a][b], reach, low, d[a][c])
						}
					}
					if apart := vect.Apart(d[a][b], d[b][c]); apart < 0 || apart > d[a][c] {
						t.Fatalf("Apart(%d, %d) is %d, but the third is %d far", d[a][b], d[b][c], apart, d[a][c])
					}
				}
			}
		}
	}
}

// Where three vectors stand in a row the bounds are just how far they are.
func TestBoundsAreMetInARow(t *testing.T) {
	r := rand.New(rand.NewSource(11))
	for range 2000 {
		n := 1 + r.Intn(6)
		a, b, c := vector(r, n), make([]int32, n), vector(r, n)
		for i := range n { // between them
			low, high := int64(min(a[i], c[i])), int64(max(a[i], c[i]))
			b[i] = int32(low + r.Int63n(high-low+1))
		}
		ab, bc, ac := dist(t, a, b), dist(t, b, c), dist(t, a, c)
		if ab+bc != ac {
			t.Errorf("%d, %d, %d in a row: %d and %d, but %d", a, b, c, ab, bc, ac)
		}
		if vect.Low(ac, bc) != ab || vect.Apart(ac, bc) != ab || vect.Apart(ac, ab) != bc || vect.Low(ac, ab) != bc {
			t.Errorf("%d, %d, %d in a row: the bounds of %d are not %d and %d", a, b, c, ac, ab, bc)
		}
	}
}

// P1

// inRoom is a copy of a list with other hits around it, and all of these.
func inRoom(r *rand.Rand, l []api.Hit) (list, around []api.Hit) {
	around = append(append(hits(r, 10), l...), hits(r, 60)...)
	return around[10 : 10+len(l)], around
}

// What is handed in, and the room around it, stays; an answer shares no memory
// with it, nor with another answer.
func TestListsAreLeftAndAnswersAreNew(t *testing.T) {
	r := rand.New(rand.NewSource(12))
	for _, n := range []int{1, 2, 3, 13, 50} {
		for _, k := range []int{-1, 0, 1, n - 1, n, n + 1, 2 * n, math.MaxInt} {
			a, roomA := inRoom(r, hits(r, n))
			b, roomB := inRoom(r, hits(r, n))
			for name, call := range map[string]func() []api.Hit{
				"First":                    func() []api.Hit { return vect.First(a, k) },
				"Merge":                    func() []api.Hit { return vect.Merge(a, b, k) },
				"Merge with none behind":   func() []api.Hit { return vect.Merge(a, nil, k) },
				"Merge with none ahead":    func() []api.Hit { return vect.Merge(nil, b, k) },
				"Merge with itself":        func() []api.Hit { return vect.Merge(a, a, k) },
				"Merge with its own room":  func() []api.Hit { return vect.Merge(a, roomA[10+n:], k) },
				"Merge with what is ahead": func() []api.Hit { return vect.Merge(a, roomA[:10], k) },
			} {
				leaves(t, fmt.Sprintf("%s, %d of %d", name, k, n), call, roomA, roomB)
			}
		}
	}
}

// leaves tells it, if a call changes what was handed in, or if its answer
// shares memory with that or with another answer. What was handed in is as it was then.
func leaves(t *testing.T, what string, call func() []api.Hit, rooms ...[]api.Hit) {
	t.Helper()
	var kept [][]api.Hit
	for _, room := range rooms {
		kept = append(kept, slices.Clone(room))
	}
	one, two := call(), call()
	want := slices.Clone(one)
	fill(two[:cap(two)])
	for i, room := range rooms {
		if !slices.Equal(room, kept[i]) {
			t.Fatalf("%s: what was handed in is another now", what)
		}
		fill(room)
	}
	if !slices.Equal(one, want) {
		t.Fatalf("%s: the answer shares memory", what)
	}
	clear(one[:cap(one)])
	for i, room := range rooms {
		for _, x := range room {
			if x != filled {
				t.Fatalf("%s: the answer shares memory with what was handed in", what)
			}
		}
		copy(room, kept[i])
	}
}

var filled = hit(77, 77)

func fill(l []api.Hit) {
	for i := range l {
		l[i] = filled
	}
}

// What is in order already is new memory all the same.
func TestListsInOrderAreLeft(t *testing.T) {
	l := rising()
	for _, k := range []int{1, len(l) - 1, len(l), len(l) + 1} {
		fill(vect.First(l, k))
		fill(vect.Merge(l, nil, k))
		fill(vect.Merge(nil, l, k))
		fill(vect.Merge(l[:3], l[3:], k))
		if !slices.Equal(l, rising()) {
			t.Fatalf("%d of a list in order share memory with it", k)
		}
	}
}

func TestVectorsAreLeft(t *testing.T) {
	r := rand.New(rand.NewSource(13))
	for _, n := range []int{0, 1, 5, api.MaxDim, api.MaxDim + 1} {
		a, b := vector(r, n+20), vector(r, n+20)
		keptA, keptB := slices.Clone(a), slices.Clone(b)
		vect.Dist(a[10:10+n], b[10:10+n])
		vect.Dist(a[10:10+n], a[10:10+n])
		vect.Dist(a[10:11+n], b[10:10+n])
		if !slices.Equal(a, keptA) || !slices.Equal(b, keptB) {
			t.Errorf("vectors of the dimension %d are others now", n)
		}
	}
}

// Vectors and hits that stand in one memory are read alone.
func TestOneMemory(t *testing.T) {
	v := []int32{1, 4, 9, 16}
	if d := dist(t, v[:3], v[1:]); d != 3+5+7 {
		t.Errorf("Dist of two parts of one list: %d", d)
	}
	if d := dist(t, v, v); d != 0 {
		t.Errorf("Dist of a vector from itself: %d", d)
	}
	l := []api.Hit{hit(3, 3), hit(1, 1), hit(2, 2)}
	mergeIs(t, l[:2], l[1:], 9, []api.Hit{hit(1, 1), hit(1, 1), hit(2, 2), hit(3, 3)})
	mergeIs(t, l[:1], l[1:], 9, []api.Hit{hit(1, 1), hit(2, 2), hit(3, 3)})
	mergeIs(t, l, l, 3, []api.Hit{hit(1, 1), hit(1, 1), hit(2, 2)})
}

// Many callers at once tell the same as one alone.
func TestCallsKnowNothingOfEachOther(t *testing.T) {
	r := rand.New(rand.NewSource(14))
	l, a, b := hits(r, 300), vector(r, 200), vector(r, 200)
	first, merged, far := vect.First(l, 30), vect.Merge(l[:100], l[100:], 50), dist(t, a, b)
	var every sync.WaitGroup
	for range 8 {
		every.Go(func() {
			for range 50 {
				vect.Dist(a, l32())
				d, err := vect.Dist(a, b)
				if d != far || err != api.OK || !slices.Equal(vect.First(l, 30), first) || !slices.Equal(vect.Merge(l[:100], l[100:], 50), merged) {
					t.Error("Dist, First or Merge tells another, called beside others")
				}
			}
		})
	}
	every.Wait()
}

// l32 is a vector of a dimension that no other here has.
func l32() []int32 { return all(3, 1) }

func BenchmarkDist(b *testing.B) {
	r := rand.New(rand.NewSource(15))
	v, w := vector(r, api.MaxDim), vector(r, api.MaxDim)
	for b.Loop() {
		vect.Dist(v, w)
	}
}

func BenchmarkFirst(b *testing.B) {
	l := hits(rand.New(rand.NewSource(16)), 1000)
	for b.Loop() {
		vect.First(l, 50)
	}
}
