package crc_test

import (
	"bytes"
	"hash/crc32"
	"math"
	"math/rand"
	"slices"
	"sync"
	"testing"

	"vicinage/crc"
)

// register takes a register through the bits of b one by one, the lowest of
// each byte first: the chapter's words, with no table.
func register(r uint32, b []byte) uint32 {
	for _, x := range b {
		r ^= uint32(x)
		for range 8 {
			out := r & 1
			r >>= 1
			if out == 1 {
				r ^= 0x82F63B78
			}
		}
	}
	return r
}

func slowSum(b []byte) uint32 { return ^register(0xFFFFFFFF, b) }

// slowJoin is R(a, n) exclusive or b, byte by byte.
func slowJoin(a, b uint32, n int) uint32 {
	if n < 0 {
		n = 0
	}
	return register(a, make([]byte, n)) ^ b
}

func draw(r *rand.Rand, n int) []byte {
	b := make([]byte, n)
	r.Read(b)
	return b
}

func count(n int, at func(int) byte) []byte {
	b := make([]byte, n)
	for i := range b {
		b[i] = at(i)
	}
	return b
}

func join(parts ...[]byte) []byte { return slices.Concat(parts...) }

// P1.1

func TestSumKnown(t *testing.T) {
	for _, c := range []struct {
		name string
		b    []byte
		want uint32
	}{
		{"nil", nil, 0},
		{"none", []byte{}, 0},
		{"none of some room", make([]byte, 0, 9), 0},
		{"123456789", []byte("123456789"), 0xE3069283},
		{"a byte 0", []byte{0}, 0x527D5351},
		{"32 bytes 0", make([]byte, 32), 0x8A9136AA},
		{"32 bytes ff", bytes.Repeat([]byte{0xFF}, 32), 0x62A8AB43},
		{"0 to 31", count(32, func(i int) byte { return byte(i) }), 0x46DD794E},
		{"31 to 0", count(32, func(i int) byte { return byte(31 - i) }), 0x113FDB5C},
	} {
		if s := crc.Sum(c.b); s != c.want {
			t.Errorf("Sum of %s: %08x, not %08x", c.name, s, c.want)
		}
	}
}

func TestSumIsTheBitsWay(t *testing.T) {
	for x := range 256 {
		b := []byte{byte(x)}
		if s := crc.Sum(b); s != slowSum(b) {
			t.Errorf("Sum of the byte %02x: %08x, not %08x", x, s, slowSum(b))
		}
	}
	r := rand.New(rand.NewSource(1))
	for n := range 600 {
		b := draw(r, n)
		if s := crc.Sum(b); s != slowSum(b) {
			t.Fatalf("Sum of %d bytes: %08x, not %08x", n, s, slowSum(b))
		}
	}
}

func TestSumOfManyBytes(t *testing.T) {
	b := draw(rand.New(rand.NewSource(2)), 3<<20+5)
	want := crc32.Checksum(b, crc32.MakeTable(crc32.Castagnoli))
	if s := crc.Sum(b); s != want {
		t.Errorf("Sum of %d bytes: %08x, not %08x", len(b), s, want)
	}
}

func TestSumTellsTheOrder(t *testing.T) {
	if crc.Sum([]byte{1, 2}) == crc.Sum([]byte{2, 1}) || crc.Sum([]byte{0}) == crc.Sum([]byte{0, 0}) {
		t.Error("other bytes have the same sum")
	}
}

func TestMore(t *testing.T) {
	if s := crc.More(crc.Sum([]byte("1234")), []byte("56789")); s != 0xE3069283 {
		t.Errorf("More of 1234 and 56789: %08x", s)
	}
	b := draw(rand.New(rand.NewSource(3)), 300)
	want := slowSum(b)
	for i := range len(b) + 1 {
		if s := crc.More(crc.Sum(b[:i]), b[i:]); s != want {
			t.Errorf("More, cut at %d: %08x, not %08x", i, s, want)
		}
	}
	s := uint32(0)
	for i := range b {
		s = crc.More(s, b[i:i+1])
	}
	if s != want {
		t.Errorf("More byte by byte: %08x, not %08x", s, want)
	}
}

func TestMoreOfAnySum(t *testing.T) {
	r := rand.New(rand.NewSource(4))
	for _, sum := range sums(r) {
		if s := crc.More(sum, nil); s != sum {
			t.Errorf("More of %08x and none: %08x", sum, s)
		}
		if s := crc.More(sum, []byte{}); s != sum {
			t.Errorf("More of %08x and an empty list: %08x", sum, s)
		}
		b := draw(r, r.Intn(40))
		if s := crc.More(sum, b); s != ^register(^sum, b) {
			t.Errorf("More of %08x and %x: %08x, not %08x", sum, b, s, ^register(^sum, b))
		}
	}
}

// sums is sums of all kinds: with few bits, with many, drawn ones.
func sums(r *rand.Rand) []uint32 {
	l := []uint32{0, math.MaxUint32, 0x82F63B78, 0x1EDC6F41, 7, 9}
	for i := range 32 {
		l = append(l, 1<<i, ^uint32(1<<i))
	}
	for range 40 {
		l = append(l, r.Uint32())
	}
	return l
}

// P1.2

func TestJoinOfTexts(t *testing.T) {
	if s := crc.Join(crc.Sum([]byte("1234")), crc.Sum([]byte("56789")), 5); s != 0xE3069283 {
		t.Errorf("Join of 1234 and 56789: %08x", s)
	}
	r := rand.New(rand.NewSource(5))
	for range 400 {
		a, b := draw(r, r.Intn(200)), draw(r, r.Intn(2000))
		if s, want := crc.Join(crc.Sum(a), crc.Sum(b), len(b)), crc.Sum(join(a, b)); s != want {
			t.Fatalf("Join of %d and %d bytes: %08x, not %08x", len(a), len(b), s, want)
		}
	}
	if crc.Join(0, 0, 0) != 0 {
		t.Error("Join of none and none")
	}
	b := []byte("beside none")
	if s := crc.Sum(b); crc.Join(0, s, len(b)) != s || crc.Join(s, 0, 0) != s {
		t.Error("Join with none")
	}
}

func TestJoinIsTheWordsWay(t *testing.T) {
	r := rand.New(rand.NewSource(6))
	for n := range 700 {
		a, b := r.Uint32(), r.Uint32()
		if s, want := crc.Join(a, b, n), slowJoin(a, b, n); s != want {
			t.Fatalf("Join(%08x, %08x, %d): %08x, not %08x", a, b, n, s, want)
		}
	}
	for _, a := range sums(r) {
		for _, n := range []int{1, 2, 3, 127, 128, 4095, 4096, 70001} {
			if s, want := crc.Join(a, 0, n), slowJoin(a, 0, n); s != want {
				t.Errorf("Join(%08x, 0, %d): %08x, not %08x", a, n, s, want)
			}
		}
	}
}

func TestJoinOfNoBytes(t *testing.T) {
	for _, n := range []int{0, -1, -5, -8, math.MinInt32, math.MinInt + 1, math.MinInt} {
		if s := crc.Join(7, 9, n); s != 14 {
			t.Errorf("Join(7, 9, %d): %d", n, s)
		}
		if s := crc.Join(0xFFFFFFFF, 0x82F63B78, n); s != 0x7D09C487 {
			t.Errorf("Join(ffffffff, 82f63b78, %d): %08x", n, s)
		}
	}
}

// The register comes round behind 2^31 - 1 steps of a bit (1EDC6F41 is x + 1
// times a polynomial of degree 31 whose x has that order), so behind as many
// bytes as well: what is very far is known without going there.
func TestJoinVeryFar(t *testing.T) {
	const round = 1<<31 - 1
	r := rand.New(rand.NewSource(7))
	for _, a := range sums(r) {
		b := r.Uint32()
		for _, c := range []struct{ far, near int }{
			{round, 0}, {round + 1, 1}, {5*round + 77, 77}, {1 << 31, 1}, {1 << 62, 1}, {1<<62 + 300, 301},
			{math.MaxInt, 1}, {math.MaxInt - 1, 0}, {math.MaxInt + 20 - round, 21},
		} {
			if s, want := crc.Join(a, b, c.far), slowJoin(a, b, c.near); s != want {
				t.Errorf("Join(%08x, %08x, %d): %08x, not %08x", a, b, c.far, s, want)
			}
		}
	}
}

func TestJoinGoesOn(t *testing.T) {
	r := rand.New(rand.NewSource(8))
	for range 300 {
		a, b, c := r.Uint32(), r.Uint32(), r.Uint32()
		n, m := int(r.Int63()>>r.Intn(62)>>1), int(r.Int63()>>r.Intn(62)>>1)
		if s, want := crc.Join(crc.Join(a, b, n), c, m), crc.Join(a, crc.Join(b, c, m), n+m); s != want {
			t.Errorf("Join of %08x, %08x (%d), %08x (%d): %08x, not %08x", a, b, n, c, m, s, want)
		}
	}
}

// P1.3

// turn is b with the bits of the burst turned, from the bit at on: the bits of
// b are counted as they are taken, the lowest of each byte first.
func turn(b []byte, at int, burst uint32) []byte {
	out := slices.Clone(b)
	for i := range 32 {
		if burst>>i&1 == 1 {
			out[(at+i)/8] ^= 1 << ((at + i) % 8)
		}
	}
	return out
}

func burstChanges(t *testing.T, b []byte, at int, burst uint32) {
	t.Helper()
	if crc.Sum(turn(b, at, burst)) == crc.Sum(b) {
		t.Errorf("the burst %08x at the bit %d of %x is not told", burst, at, b)
	}
}

func TestShortBurstsAnywhere(t *testing.T) {
	b := draw(rand.New(rand.NewSource(9)), 9)
	for long := 1; long <= 9; long++ {
		for burst := uint32(1); burst < 1<<long; burst++ {
			for at := range len(b)*8 - long + 1 {
				burstChanges(t, b, at, burst)
			}
		}
	}
}

func TestBurstsOfEachLength(t *testing.T) {
	r := rand.New(rand.NewSource(10))
	for long := 1; long <= 32; long++ {
		ends := uint32(1)<<(long-1) | 1
		all := uint32(1<<long - 1)
		for _, n := range []int{4, 5, 40, 128, 512} {
			b := draw(r, n)
			for range 20 {
				at := r.Intn(n*8 - long + 1)
				burstChanges(t, b, at, ends)
				burstChanges(t, b, at, all)
				burstChanges(t, b, at, (r.Uint32()|ends)&all)
			}
			burstChanges(t, b, 0, all)
			burstChanges(t, b, n*8-long, all)
		}
	}
}

// A burst of 33 bits may go untold: the polynomial itself, which is why a sum
// has no promise beyond 32.
func TestThePolynomialIsNotTold(t *testing.T) {
	b := draw(rand.New(rand.NewSource(11)), 20)
	for at := range 20*8 - 32 {
		c := turn(turn(b, at, 1), at+1, 0x82F63B78)
		if crc.Sum(c) != crc.Sum(b) {
			t.Errorf("it is another polynomial: told at the bit %d", at)
		}
	}
}

func TestExclusiveOrOfThree(t *testing.T) {
	r := rand.New(rand.NewSource(12))
	for n := range 300 {
		x, y, z := draw(r, n), draw(r, n), draw(r, n)
		all := make([]byte, n)
		for i := range all {
			all[i] = x[i] ^ y[i] ^ z[i]
		}
		if s, want := crc.Sum(all), crc.Sum(x)^crc.Sum(y)^crc.Sum(z); s != want {
			t.Errorf("three texts of %d bytes: %08x, not %08x", n, s, want)
		}
	}
}

// P1

func TestNothingHandedInChanges(t *testing.T) {
	whole := draw(rand.New(rand.NewSource(13)), 600)
	kept := slices.Clone(whole)
	b := whole[100:200]
	crc.Sum(b)
	crc.More(5, b)
	crc.Sum(b[:0])
	crc.More(5, b[:0])
	if !bytes.Equal(whole, kept) {
		t.Error("what was handed in is another now")
	}
	// Nothing of it is kept either: what is written there since is not seen.
	s := crc.Sum(b)
	clear(b)
	if crc.Sum(b) != slowSum(make([]byte, 100)) {
		t.Error("Sum remembers bytes")
	}
	copy(whole, kept)
	if crc.Sum(b) != s {
		t.Error("Sum of the same bytes is another")
	}
}

func TestAnswersHangOnArgumentsAlone(t *testing.T) {
	b := draw(rand.New(rand.NewSource(14)), 257)
	sum, more, far := crc.Sum(b), crc.More(99, b), crc.Join(3, 4, 12345)
	var w sync.WaitGroup
	for i := range 8 {
		w.Go(func() {
			for range 50 {
				crc.Sum(b[i:])
				if crc.Sum(b) != sum || crc.More(99, b) != more || crc.Join(3, 4, 12345) != far {
					t.Error("the same call tells something else")
				}
			}
		})
	}
	w.Wait()
}

func BenchmarkSumOfAPage(b *testing.B) {
	p := make([]byte, 508)
	for b.Loop() {
		crc.Sum(p)
	}
}

func BenchmarkJoinVeryFar(b *testing.B) {
	for b.Loop() {
		crc.Join(1, 2, math.MaxInt)
	}
}
