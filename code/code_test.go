package code_test

import (
	"bytes"
	"encoding/binary"
	"fmt"
	"math"
	"math/big"
	"math/rand"
	"slices"
	"sync"
	"testing"

	"vicinage/api"
	"vicinage/code"
)

func draw(r *rand.Rand, n int) []byte {
	b := make([]byte, n)
	r.Read(b)
	return b
}

func join(parts ...[]byte) []byte { return slices.Concat(parts...) }

func rep(x byte, n int) []byte { return bytes.Repeat([]byte{x}, n) }

// slowFixed is the lowest size bytes of n, the lowest first, by division.
func slowFixed(n uint64, size int) []byte {
	b := make([]byte, size)
	for i := range b {
		b[i] = byte(n % 256)
		n /= 256
	}
	return b
}

// slowUv is the count of n: its digits to the base 128, by division.
func slowUv(n uint64) []byte {
	b := []byte{byte(n % 128)}
	for n /= 128; n > 0; n /= 128 {
		b[len(b)-1] += 128
		b = append(b, byte(n%128))
	}
	return b
}

func slowText(s []byte) []byte { return join(slowUv(uint64(len(s))), s) }

// numbers is numbers of all sizes: the edges of each count of bytes and of
// bits, and drawn ones.
func numbers(r *rand.Rand) []uint64 {
	l := []uint64{0, math.MaxUint64, math.MaxUint64 - 1, 0x0102030405060708, 0xF1E2D3C4B5A69788}
	for i := range 64 {
		l = append(l, 1<<i-1, 1<<i, 1<<i+1, ^uint64(1<<i), r.Uint64()>>i)
	}
	return l
}

// A kind is what a form is of: how it is put, and how it is read.
type kind struct {
	name string
	put  func(b []byte, n uint64, s []byte) []byte
	form func(n uint64, s []byte) []byte
	read func(r *code.Reader) (uint64, []byte)
	want func(n uint64, s []byte) (uint64, []byte)
}

// kinds is all kinds that can be put and read; U8 has no Put of its own.
func kinds() []kind {
	fixed := func(name string, size int, put func([]byte, uint64) []byte, read func(*code.Reader) uint64) kind {
		return kind{
			name,
			func(b []byte, n uint64, _ []byte) []byte { return put(b, n) },
			func(n uint64, _ []byte) []byte { return slowFixed(n, size) },
			func(r *code.Reader) (uint64, []byte) { return read(r), nil },
			func(n uint64, _ []byte) (uint64, []byte) { return n << (64 - 8*size) >> (64 - 8*size), nil },
		}
	}
	return []kind{
		fixed("8", 1, func(b []byte, n uint64) []byte { return join(b, []byte{byte(n)}) }, func(r *code.Reader) uint64 { return uint64(r.U8()) }),
		fixed("16", 2, func(b []byte, n uint64) []byte { return code.Put16(b, uint16(n)) }, func(r *code.Reader) uint64 { return uint64(r.U16()) }),
		fixed("32", 4, func(b []byte, n uint64) []byte { return code.Put32(b, uint32(n)) }, func(r *code.Reader) uint64 { return uint64(r.U32()) }),
		fixed("64", 8, code.Put64, (*code.Reader).U64),
		{
			"Uv",
			func(b []byte, n uint64, _ []byte) []byte { return code.PutUv(b, n) },
			func(n uint64, _ []byte) []byte { return slowUv(n) },
			func(r *code.Reader) (uint64, []byte) { return r.Uv(), nil },
			func(n uint64, _ []byte) (uint64, []byte) { return n, nil },
		},
		{
			"Text",
			func(b []byte, _ uint64, s []byte) []byte { return code.PutText(b, s) },
			func(_ uint64, s []byte) []byte { return slowText(s) },
			func(r *code.Reader) (uint64, []byte) { return 0, r.Text(math.MaxInt) },
			func(_ uint64, s []byte) (uint64, []byte) { return 0, s },
		},
	}
}

// stands tells where the reader stands, if it does not stand there.
func stands(t *testing.T, what string, r *code.Reader, left int, err api.Errno) {
	t.Helper()
	if r.Left() != left || r.Err() != err {
		t.Errorf("%s: Left %d, Err %d, not %d, %d", what, r.Left(), r.Err(), left, err)
	}
}

// stays tells whether a reader that has an error, or is nil, says nothing by
// any call and moves by none.
func stays(t *testing.T, what string, r *code.Reader) {
	t.Helper()
	left, err := r.Left(), r.Err()
	for range 2 {
		for _, k := range kinds() {
			if n, s := k.read(r); n != 0 || len(s) != 0 {
				t.Errorf("%s: %s tells %d, %x behind the error %d", what, k.name, n, s, err)
			}
			stands(t, what+", then "+k.name, r, left, err)
		}
		for _, most := range []int{math.MinInt, -1, 0, 1, math.MaxInt} {
			if s := r.Text(most); len(s) != 0 {
				t.Errorf("%s: Text(%d) tells %x behind the error %d", what, most, s, err)
			}
			stands(t, what+", then Text", r, left, err)
		}
	}
}

// fails reads once and tells whether that is refused so, and the reader stays for good.
func fails(t *testing.T, what string, r *code.Reader, read func(*code.Reader) (uint64, []byte), want api.Errno) {
	t.Helper()
	left := r.Left()
	if n, s := read(r); n != 0 || len(s) != 0 {
		t.Errorf("%s: tells %d, %x", what, n, s)
	}
	stands(t, what, r, left, want)
	stays(t, what, r)
}

func readUv(r *code.Reader) (uint64, []byte) { return r.Uv(), nil }

func readText(most int) func(*code.Reader) (uint64, []byte) {
	return func(r *code.Reader) (uint64, []byte) { return 0, r.Text(most) }
}

// P2.1

func TestPutKnown(t *testing.T) {
	nine := []byte{9}
	for _, c := range []struct {
		name      string
		got, want []byte
	}{
		{"Put16 of 1 behind none", code.Put16(nil, 1), []byte{1, 0}},
		{"Put16 of 1 behind an empty list", code.Put16([]byte{}, 1), []byte{1, 0}},
		{"Put16 of 0102 behind 9", code.Put16(nine, 0x0102), []byte{9, 2, 1}},
		{"Put16 of the most", code.Put16(nil, math.MaxUint16), rep(0xFF, 2)},
		{"Put32 of 1 behind 9", code.Put32(nine, 1), []byte{9, 1, 0, 0, 0}},
		{"Put32 of 01020304", code.Put32(nil, 0x01020304), []byte{4, 3, 2, 1}},
		{"Put32 of the most", code.Put32(nil, math.MaxUint32), rep(0xFF, 4)},
		{"Put64 of 0", code.Put64(nine, 0), []byte{9, 0, 0, 0, 0, 0, 0, 0, 0}},
		{"Put64 of 0102030405060708", code.Put64(nil, 0x0102030405060708), []byte{8, 7, 6, 5, 4, 3, 2, 1}},
		{"Put64 of the most", code.Put64(nil, math.MaxUint64), rep(0xFF, 8)},
		{"PutUv of 0", code.PutUv(nil, 0), []byte{0}},
		{"PutUv of 127", code.PutUv(nine, 127), []byte{9, 0x7F}},
		{"PutUv of 128", code.PutUv(nil, 128), []byte{0x80, 1}},
		{"PutUv of 300", code.PutUv(nil, 300), []byte{0xAC, 2}},
		{"PutUv of 2^63", code.PutUv(nil, 1<<63), append(rep(0x80, 9), 1)},
		{"PutUv of 2^64 - 1", code.PutUv(nil, math.MaxUint64), append(rep(0xFF, 9), 1)},
		{"PutText of ab", code.PutText(nil, []byte("ab")), []byte{2, 'a', 'b'}},
		{"PutText of none behind 9", code.PutText(nine, nil), []byte{9, 0}},
		{"PutText of an empty text", code.PutText(nil, []byte{}), []byte{0}},
		{"PutText of 200 bytes", code.PutText(nine, rep(7, 200)), join([]byte{9, 0xC8, 1}, rep(7, 200))},
	} {
		if !bytes.Equal(c.got, c.want) {
			t.Errorf("%s: %x, not %x", c.name, c.got, c.want)
		}
	}
}

func TestPutIsTheWordsWay(t *testing.T) {
	r := rand.New(rand.NewSource(1))
	for _, n := range numbers(r) {
		b := draw(r, r.Intn(20))
		s := draw(r, r.Intn(300))
		for _, k := range kinds() {
			if got, want := k.put(b, n, s), join(b, k.form(n, s)); !bytes.Equal(got, want) {
				t.Errorf("Put%s of %x, %x behind %x: %x, not %x", k.name, n, s, b, got, want)
			}
		}
	}
}

func TestPutsAreAsTheLibraryHasThem(t *testing.T) {
	r := rand.New(rand.NewSource(2))
	for _, n := range numbers(r) {
		if got, want := code.Put16(nil, uint16(n)), binary.LittleEndian.AppendUint16(nil, uint16(n)); !bytes.Equal(got, want) {
			t.Errorf("Put16 of %x: %x, not %x", n, got, want)
		}
		if got, want := code.Put32(nil, uint32(n)), binary.LittleEndian.AppendUint32(nil, uint32(n)); !bytes.Equal(got, want) {
			t.Errorf("Put32 of %x: %x, not %x", n, got, want)
		}
		if got, want := code.Put64(nil, n), binary.LittleEndian.AppendUint64(nil, n); !bytes.Equal(got, want) {
			t.Errorf("Put64 of %x: %x, not %x", n, got, want)
		}
		if got, want := code.PutUv(nil, n), binary.AppendUvarint(nil, n); !bytes.Equal(got, want) {
			t.Errorf("PutUv of %x: %x, not %x", n, got, want)
		}
	}
}

func TestCountsOfOneToTenBytes(t *testing.T) {
	for size := 1; size <= 10; size++ {
		low, high := uint64(0), uint64(math.MaxUint64)
		if size > 1 {
			low = 1 << (7 * (size - 1))
		}
		if size < 10 {
			high = 1<<(7*size) - 1
		}
		for _, n := range []uint64{low, low + 1, low/2 + high/2, high - 1, high} {
			b := code.PutUv(nil, n)
			if len(b) != size {
				t.Errorf("PutUv of %x: %x, not %d bytes", n, b, size)
			}
			r := code.NewReader(b)
			if m := r.Uv(); m != n {
				t.Errorf("Uv of %x: %x, not %x", b, m, n)
			}
			stands(t, fmt.Sprintf("Uv of %x", b), r, 0, api.OK)
		}
	}
}

func TestTextsOfAllLengths(t *testing.T) {
	r := rand.New(rand.NewSource(3))
	for _, n := range []int{0, 1, 2, 126, 127, 128, 129, 16383, 16384, 16385, 1<<21 - 1, 1 << 21} {
		s := draw(r, n)
		b := code.PutText([]byte{5}, s)
		if !bytes.Equal(b, join([]byte{5}, slowText(s))) {
			t.Errorf("PutText of %d bytes is none", n)
		}
		rd := code.NewReader(b)
		if rd.U8() != 5 || !bytes.Equal(rd.Text(n), s) {
			t.Errorf("Text of %d bytes is another", n)
		}
		stands(t, fmt.Sprintf("Text of %d bytes", n), rd, 0, api.OK)
	}
}

// P2.2

func TestReaderReadsOneAfterTheOther(t *testing.T) {
	b := []byte{7, 2, 1, 4, 3, 2, 1, 8, 7, 6, 5, 4, 3, 2, 1, 0xAC, 2, 2, 'a', 'b', 0, 99}
	r := code.NewReader(b)
	stands(t, "at the beginning", r, 22, api.OK)
	if n := r.U8(); n != 7 {
		t.Errorf("U8: %x", n)
	}
	stands(t, "behind U8", r, 21, api.OK)
	if n := r.U16(); n != 0x0102 {
		t.Errorf("U16: %x", n)
	}
	stands(t, "behind U16", r, 19, api.OK)
	if n := r.U32(); n != 0x01020304 {
		t.Errorf("U32: %x", n)
	}
	stands(t, "behind U32", r, 15, api.OK)
	if n := r.U64(); n != 0x0102030405060708 {
		t.Errorf("U64: %x", n)
	}
	stands(t, "behind U64", r, 7, api.OK)
	if n := r.Uv(); n != 300 {
		t.Errorf("Uv: %x", n)
	}
	stands(t, "behind Uv", r, 5, api.OK)
	if s := r.Text(2); string(s) != "ab" {
		t.Errorf("Text: %x", s)
	}
	stands(t, "behind a text", r, 2, api.OK)
	if s := r.Text(0); len(s) != 0 {
		t.Errorf("Text of none: %x", s)
	}
	stands(t, "behind a text of none", r, 1, api.OK)
	if n := r.U8(); n != 99 {
		t.Errorf("the last U8: %x", n)
	}
	stands(t, "at the end", r, 0, api.OK)
	fails(t, "U16 at the end", r, kinds()[1].read, api.ErrBytes)
}

func TestReaderOfNone(t *testing.T) {
	for _, k := range kinds() {
		for name, b := range map[string][]byte{"nil": nil, "none": {}, "none of some room": make([]byte, 0, 9)} {
			r := code.NewReader(b)
			if r == nil {
				t.Fatalf("NewReader of %s: nil", name)
			}
			stands(t, "a reader of "+name, r, 0, api.OK)
			fails(t, k.name+" of "+name, r, k.read, api.ErrBytes)
		}
		fails(t, k.name+" of a zero reader", new(code.Reader), k.read, api.ErrBytes)
	}
}

func TestTooFewBytesAreLeft(t *testing.T) {
	for i, size := range []int{1, 2, 4, 8} {
		k := kinds()[i]
		for n := range size {
			fails(t, fmt.Sprintf("%s of %d bytes", k.name, n), code.NewReader(rep(3, n)), k.read, api.ErrBytes)
			r := code.NewReader(rep(3, 5+n))
			r.U8()
			r.U32()
			fails(t, fmt.Sprintf("%s with %d bytes left", k.name, n), r, k.read, api.ErrBytes)
		}
		r := code.NewReader(rep(3, size))
		if n, _ := k.read(r); n != binary.LittleEndian.Uint64(rep(3, 8))>>(64-8*size) {
			t.Errorf("%s of just its bytes: %x", k.name, n)
		}
		stands(t, k.name+" of just its bytes", r, 0, api.OK)
	}
	for n := range 11 {
		fails(t, fmt.Sprintf("Uv of %d bytes 80", n), code.NewReader(rep(0x80, n)), readUv, api.ErrBytes)
		fails(t, fmt.Sprintf("Text of %d bytes ff", n), code.NewReader(rep(0xFF, n)), readText(math.MaxInt), api.ErrBytes)
	}
}

// noCounts is bytes with which no count begins.
func noCounts() [][]byte {
	var l [][]byte
	// Not as few bytes as can be: a last byte 0 behind any others.
	for n := 1; n <= 9; n++ {
		l = append(l, append(rep(0x80, n), 0), append(rep(0xFF, n), 0), append(append(rep(0x80, n-1), 0x85), 0))
	}
	// 2^64 or more: the tenth byte is above 1.
	for x := 2; x < 0x80; x++ {
		l = append(l, append(rep(0x80, 9), byte(x)), append(rep(0xFF, 9), byte(x)))
	}
	// More than ten bytes, whatever the last ones are.
	for _, x := range []byte{0x80, 0x81, 0x82, 0xFE, 0xFF} {
		for _, last := range []byte{0, 1, 2, 0x7F} {
			l = append(l, append(rep(0x80, 9), x, last), append(rep(0xFF, 9), x, last), append(rep(0x80, 9), x, 0x80, last))
		}
	}
	return append(l, rep(0xFF, 10), rep(0xFF, 11), rep(0x80, 10), rep(0x80, 40), []byte{0x80, 0}, []byte{0x80})
}

func TestNoCount(t *testing.T) {
	for _, b := range noCounts() {
		fails(t, fmt.Sprintf("Uv of %x", b), code.NewReader(b), readUv, api.ErrBytes)
		for _, most := range []int{math.MinInt, -1, 0, 1, math.MaxInt} {
			fails(t, fmt.Sprintf("Text(%d) of %x", most, b), code.NewReader(b), readText(most), api.ErrBytes)
		}
		if len(b) < 10 && b[len(b)-1] >= 0x80 {
			continue // it is cut: with more bytes behind it, it may be one
		}
		// No bytes behind it make it a count.
		more := join([]byte{4}, b, rep(1, 9))
		r := code.NewReader(more)
		r.U8()
		fails(t, fmt.Sprintf("Uv of %x behind a byte", more), r, readUv, api.ErrBytes)
	}
}

func TestATextWithACountThatIsNotShort(t *testing.T) {
	fails(t, "Text of 81 00 and a byte", code.NewReader([]byte{0x81, 0, 'a'}), readText(5), api.ErrBytes)
	fails(t, "Text of 80 00", code.NewReader([]byte{0x80, 0}), readText(5), api.ErrBytes)
}

func TestTextAboveMost(t *testing.T) {
	ab := []byte{2, 'a', 'b'}
	for _, most := range []int{1, 0, -1, math.MinInt32, math.MinInt} {
		r := code.NewReader(ab)
		fails(t, fmt.Sprintf("Text(%d) of 2, a, b", most), r, readText(most), api.ErrLong)
		stands(t, "it stands at its count", r, 3, api.ErrLong)
	}
	for _, most := range []int{2, 3, 1000, math.MaxInt32, math.MaxInt} {
		r := code.NewReader(ab)
		if s := r.Text(most); string(s) != "ab" {
			t.Errorf("Text(%d) of 2, a, b: %x", most, s)
		}
		stands(t, fmt.Sprintf("Text(%d) of 2, a, b", most), r, 0, api.OK)
	}
	// No bytes are never too many.
	for _, most := range []int{math.MinInt, -1, 0, 1, math.MaxInt} {
		r := code.NewReader([]byte{0, 2})
		if s := r.Text(most); len(s) != 0 {
			t.Errorf("Text(%d) of none: %x", most, s)
		}
		stands(t, fmt.Sprintf("Text(%d) of none", most), r, 1, api.OK)
	}
}

func TestTextAboveMostAheadOfTooFewBytes(t *testing.T) {
	for _, c := range []struct {
		count uint64
		left  int
		most  int
		want  api.Errno
	}{
		{2, 1, 1, api.ErrLong},
		{2, 0, 0, api.ErrLong},
		{2, 0, -7, api.ErrLong},
		{2, 1, 2, api.ErrBytes},
		{2, 0, math.MaxInt, api.ErrBytes},
		{200, 199, 200, api.ErrBytes},
		{200, 199, 199, api.ErrLong},
		{200, 200, 199, api.ErrLong},
		{1 << 31, 5, 1<<31 - 1, api.ErrLong},
		{1 << 32, 5, 5, api.ErrLong},
		{1<<32 + 2, 5, 5, api.ErrLong},
		{1<<32 + 2, 5, 1<<32 + 2, api.ErrBytes},
		{math.MaxInt64, 5, math.MaxInt, api.ErrBytes},
		{math.MaxInt64, 5, math.MaxInt - 1, api.ErrLong},
		{math.MaxInt64, 5, math.MinInt, api.ErrLong},
		{1 << 63, 5, math.MaxInt, api.ErrLong},
		{1<<63 + 1, 5, -1, api.ErrLong},
		{math.MaxUint64, 5, math.MaxInt, api.ErrLong},
		{math.MaxUint64, 5, 5, api.ErrLong},
		{math.MaxUint64, 5, -1, api.ErrLong},
		{math.MaxUint64, 0, math.MinInt, api.ErrLong},
		{math.MaxUint64 - 4, 5, math.MaxInt, api.ErrLong},
	} {
		b := join(slowUv(c.count), rep('x', c.left))
		fails(t, fmt.Sprintf("Text(%d) of the count %x with %d bytes", c.most, c.count, c.left), code.NewReader(b), readText(c.most), c.want)
	}
}

func TestTheFirstErrorStays(t *testing.T) {
	// A text that is too long, though bytes are there for every call.
	r := code.NewReader(join([]byte{9}, rep(1, 100)))
	fails(t, "Text(8) of 9 bytes", r, readText(8), api.ErrLong)
	stands(t, "at the text", r, 101, api.ErrLong)
	// Too few bytes, though a call for fewer would find them.
	r = code.NewReader([]byte{1, 2, 0})
	fails(t, "U64 of 3 bytes", r, kinds()[3].read, api.ErrBytes)
	stands(t, "at the three bytes", r, 3, api.ErrBytes)
	// No count, though a byte is there.
	r = code.NewReader([]byte{3, 'a', 'b', 'c', 0x80, 0, 1, 1, 1, 1, 1, 1, 1, 1})
	if string(r.Text(3)) != "abc" {
		t.Error("Text ahead of no count")
	}
	fails(t, "Uv of 80 00 behind a text", r, readUv, api.ErrBytes)
	stands(t, "at no count", r, 10, api.ErrBytes)
}

func TestNilReader(t *testing.T) {
	var r *code.Reader
	stands(t, "a nil reader", r, 0, api.ErrNil)
	stays(t, "a nil reader", r)
}

// model is a reader as the chapter's words have it, place by place.
type model struct {
	b   []byte
	at  int
	err api.Errno
}

// fixed is the next number of size bytes.
func (m *model) fixed(size int) uint64 {
	if m.err != api.OK {
		return 0
	}
	if m.at+size > len(m.b) {
		m.err = api.ErrBytes
		return 0
	}
	n := uint64(0)
	for i := size - 1; i >= 0; i-- {
		n = n*256 + uint64(m.b[m.at+i])
	}
	m.at += size
	return n
}

// count is the count at the place, and how many bytes it has, by numbers of any size.
func (m *model) count() (uint64, int) {
	end := m.at
	for end < len(m.b) && m.b[end] >= 128 {
		end++
	}
	if end == len(m.b) {
		return 0, 0
	}
	n := new(big.Int)
	for i := end; i >= m.at; i-- {
		n.Mul(n, big.NewInt(128))
		n.Add(n, big.NewInt(int64(m.b[i]%128)))
	}
	if !n.IsUint64() || !bytes.Equal(slowUv(n.Uint64()), m.b[m.at:end+1]) {
		return 0, 0
	}
	return n.Uint64(), end + 1 - m.at
}

func (m *model) uv() uint64 {
	if m.err != api.OK {
		return 0
	}
	n, size := m.count()
	if size == 0 {
		m.err = api.ErrBytes
	}
	m.at += size
	return n
}

func (m *model) text(most int) []byte {
	if m.err != api.OK {
		return nil
	}
	n, size := m.count()
	left := big.NewInt(int64(len(m.b) - m.at - size))
	long := new(big.Int).SetUint64(n)
	switch {
	case size == 0:
		m.err = api.ErrBytes
	case long.Cmp(big.NewInt(int64(max(0, most)))) > 0:
		m.err = api.ErrLong
	case long.Cmp(left) > 0:
		m.err = api.ErrBytes
	default:
		m.at += size + int(n)
		return m.b[m.at-int(n) : m.at]
	}
	return nil
}

// nearForms is bytes of which many are forms, or nearly: whole ones, cut ones, bytes that are anything.
func nearForms(r *rand.Rand) []byte {
	var b []byte
	for range r.Intn(7) {
		switch r.Intn(6) {
		case 0:
			b = append(b, draw(r, r.Intn(9))...)
		case 1:
			b = append(b, slowUv(r.Uint64()>>r.Intn(64))...)
		case 2:
			b = append(b, slowText(draw(r, r.Intn(12)))...)
		case 3:
			s := slowText(draw(r, r.Intn(200)))
			b = append(b, s[:r.Intn(len(s)+1)]...)
		case 4:
			b = append(b, rep(0x80|byte(r.Intn(128)), r.Intn(12))...)
		case 5:
			b = append(b, byte(r.Intn(4)))
		}
	}
	return b
}

func TestReaderIsTheWordsWay(t *testing.T) {
	r := rand.New(rand.NewSource(4))
	mosts := []int{math.MinInt, -1, 0, 1, 2, 5, 11, 150, math.MaxInt}
	for range 40000 {
		b := nearForms(r)
		rd, m := code.NewReader(b), &model{b: b}
		for range 12 {
			var n, want uint64
			var s, text []byte
			call := r.Intn(6)
			switch call {
			case 0:
				n, want = uint64(rd.U8()), m.fixed(1)
			case 1:
				n, want = uint64(rd.U16()), m.fixed(2)
			case 2:
				n, want = uint64(rd.U32()), m.fixed(4)
			case 3:
				n, want = rd.U64(), m.fixed(8)
			case 4:
				n, want = rd.Uv(), m.uv()
			case 5:
				most := mosts[r.Intn(len(mosts))]
				s, text = rd.Text(most), m.text(most)
			}
			if n != want || !bytes.Equal(s, text) || rd.Left() != len(b)-m.at || rd.Err() != m.err {
				t.Fatalf("of %x: the call %d tells %x, %x, Left %d, Err %d, not %x, %x, %d, %d", b, call, n, s, rd.Left(), rd.Err(), want, text, len(b)-m.at, m.err)
			}
		}
	}
}

// P2.3

func TestWhatWasPutIsReadAgain(t *testing.T) {
	r := rand.New(rand.NewSource(5))
	for _, n := range numbers(r) {
		s := draw(r, r.Intn(200))
		behind := draw(r, r.Intn(12))
		for _, k := range kinds() {
			wantN, wantS := k.want(n, s)
			b := k.put(nil, n, s)
			for _, more := range [][]byte{nil, behind, {0}, {0x80}, {0xFF}, b} {
				rd := code.NewReader(join(b, more))
				if gotN, gotS := k.read(rd); gotN != wantN || !bytes.Equal(gotS, wantS) {
					t.Errorf("%s: %x, %x were put, %x, %x read, with %x behind", k.name, wantN, wantS, gotN, gotS, more)
				}
				stands(t, k.name+" with more behind", rd, len(more), api.OK)
			}
		}
	}
}

func TestManyAreReadAgainInTheirOrder(t *testing.T) {
	r := rand.New(rand.NewSource(6))
	for range 300 {
		var b []byte
		var which []kind
		var ns []uint64
		var ss [][]byte
		for range r.Intn(30) {
			k := kinds()[r.Intn(6)]
			n, s := r.Uint64()>>r.Intn(64), draw(r, r.Intn(150))
			b = k.put(b, n, s)
			which, ns, ss = append(which, k), append(ns, n), append(ss, s)
		}
		rd := code.NewReader(b)
		for i, k := range which {
			gotN, gotS := k.read(rd)
			wantN, wantS := k.want(ns[i], ss[i])
			if gotN != wantN || !bytes.Equal(gotS, wantS) {
				t.Errorf("the %d-th of %d: %s tells %x, %x, not %x, %x", i, len(which), k.name, gotN, gotS, wantN, wantS)
			}
		}
		stands(t, "behind all", rd, 0, api.OK)
	}
}

func TestWhatIsReadPutAgainIsTheBytes(t *testing.T) {
	r := rand.New(rand.NewSource(7))
	for range 20000 {
		b := nearForms(r)
		for _, k := range kinds() {
			rd := code.NewReader(b)
			n, s := k.read(rd)
			if rd.Err() != api.OK {
				continue
			}
			if again, was := k.put(nil, n, s), b[:len(b)-rd.Left()]; !bytes.Equal(again, was) {
				t.Errorf("%s of %x tells %x, %x: put again %x", k.name, was, n, s, again)
			}
		}
	}
}

// All beginnings of two bytes: no number has two counts, and no other bytes are one.
func TestCountsOfTwoBytes(t *testing.T) {
	seen := map[uint64]bool{}
	for x := range 256 {
		for y := range 256 {
			b := []byte{byte(x), byte(y)}
			r := code.NewReader(b)
			n := r.Uv()
			if r.Err() != api.OK {
				if x < 128 || y != 0 && y < 128 {
					t.Errorf("Uv of %x: Err %d", b, r.Err())
				}
				continue
			}
			if !bytes.Equal(code.PutUv(nil, n), b[:2-r.Left()]) {
				t.Errorf("Uv of %x: %d with %d left", b, n, r.Left())
			}
			seen[n] = true
		}
	}
	if len(seen) != 1<<14 {
		t.Errorf("%d numbers have counts of one or two bytes, not %d", len(seen), 1<<14)
	}
}

func TestFormsCutAnywhere(t *testing.T) {
	r := rand.New(rand.NewSource(8))
	for _, n := range numbers(r) {
		s := draw(r, r.Intn(140))
		for _, k := range kinds() {
			b := k.put(nil, n, s)
			for i := range b {
				fails(t, fmt.Sprintf("%s of %x, cut at %d", k.name, b, i), code.NewReader(b[:i]), k.read, api.ErrBytes)
			}
		}
	}
	s := draw(r, 300)
	b := code.PutText(nil, s)
	for i := range b {
		fails(t, fmt.Sprintf("Text(300) of 300 bytes, cut at %d", i), code.NewReader(b[:i]), readText(300), api.ErrBytes)
	}
}

// P1

// Two readers that stand at the same place of the same copy tell texts of their own.
func TestTextsShareNoMemoryWithTheReader(t *testing.T) {
	r := code.NewReader([]byte{3, 'a', 'b', 'c'})
	same := *r
	one := r.Text(3)
	clear(one[:cap(one)])
	if two := same.Text(3); string(two) != "abc" {
		t.Errorf("Text, read again behind one that was written over: %q", two)
	}
}

// What is put goes neither into the bytes that are handed in nor into the
// spare room behind them, and shares no memory with them or with another answer.
func TestPutLeavesWhatIsHandedIn(t *testing.T) {
	r := rand.New(rand.NewSource(9))
	for _, k := range kinds()[1:] {
		for _, n := range []int{0, 1, 30} {
			whole := draw(r, 100)
			text := draw(r, 100)
			kept, keptText := slices.Clone(whole), slices.Clone(text)
			b, s := whole[10:10+n], text[10:10+n]
			one := k.put(b, math.MaxUint64, s)
			two := k.put(b, 0, s)
			want := join(b, k.form(math.MaxUint64, s))
			if !bytes.Equal(whole, kept) || !bytes.Equal(text, keptText) {
				t.Fatalf("Put%s behind %d bytes: what was handed in is another now", k.name, n)
			}
			if !bytes.Equal(one, want) {
				t.Errorf("Put%s behind %d bytes is another behind a second call", k.name, n)
			}
			// Writing over an answer, its spare room too, and over what was handed in, changes nothing else.
			clear(two[:cap(two)])
			if !bytes.Equal(whole, kept) || !bytes.Equal(text, keptText) || !bytes.Equal(one, want) {
				t.Errorf("Put%s behind %d bytes: an answer shares memory", k.name, n)
			}
			clear(whole)
			clear(text)
			if !bytes.Equal(one, want) {
				t.Errorf("Put%s behind %d bytes: the answer hangs on what was handed in", k.name, n)
			}
		}
	}
}

// Bytes that are handed in twice, as what is ahead and as the text, are read alone.
func TestPutTextOfItself(t *testing.T) {
	b := make([]byte, 5, 40)
	copy(b, "vicin")
	if got := code.PutText(b, b); !bytes.Equal(got, []byte("vicin\x05vicin")) {
		t.Errorf("PutText of bytes behind themselves: %q", got)
	}
	if got := code.PutText(b[:2], b); !bytes.Equal(got, []byte("vi\x05vicin")) {
		t.Errorf("PutText of bytes behind their beginning: %q", got)
	}
	if string(b) != "vicin" {
		t.Errorf("what was handed in is %q", b)
	}
}

func TestReaderReadsACopy(t *testing.T) {
	whole := join(rep(9, 10), []byte{3, 'a', 'b', 'c', 1, 0, 0, 0, 0xAC, 2}, rep(9, 10))
	kept := slices.Clone(whole)
	b := whole[10:20]
	r := code.NewReader(b)
	other := code.NewReader(b)
	clear(whole)
	if s := r.Text(3); string(s) != "abc" {
		t.Errorf("Text, written over behind NewReader: %q", s)
	}
	if n := r.U32(); n != 1 {
		t.Errorf("U32, written over behind NewReader: %d", n)
	}
	if n := r.Uv(); n != 300 {
		t.Errorf("Uv, written over behind NewReader: %d", n)
	}
	stands(t, "at the end", r, 0, api.OK)
	// The other reader has not moved, and what is handed in is as it was written.
	stands(t, "the other reader", other, 10, api.OK)
	if !bytes.Equal(whole, make([]byte, len(kept))) {
		t.Error("a reader writes what was handed in")
	}
	copy(whole, kept)
	third := code.NewReader(b)
	third.Text(3)
	third.U64()
	if !bytes.Equal(whole, kept) {
		t.Error("a reader writes what was handed in")
	}
}

func TestTextsAreNewMemory(t *testing.T) {
	b := []byte{3, 'a', 'b', 'c', 0, 2, 'd', 'e', 77, 78}
	r, other := code.NewReader(b), code.NewReader(b)
	abc := r.Text(9)
	// Writing over it, and into its spare room, reaches nothing that is still to be read.
	clear(abc[:cap(abc)])
	none := r.Text(9)
	clear(none[:cap(none)])
	de := r.Text(9)
	if string(de) != "de" {
		t.Errorf("Text behind a text that was written over: %q", de)
	}
	clear(de[:cap(de)])
	if n := r.U16(); n != 77+78*256 {
		t.Errorf("U16 behind a text that was written over: %x", n)
	}
	if s := other.Text(9); string(s) != "abc" {
		t.Errorf("Text of another reader: %q", s)
	}
	if !bytes.Equal(b, []byte{3, 'a', 'b', 'c', 0, 2, 'd', 'e', 77, 78}) {
		t.Error("a text shares memory with what was handed in")
	}
}

func TestReadersKnowNothingOfEachOther(t *testing.T) {
	b := code.PutText(code.PutUv(code.Put32(nil, 5), 1<<40), []byte("vicinage"))
	bad := code.NewReader(nil)
	bad.U8()
	var w sync.WaitGroup
	for range 8 {
		w.Go(func() {
			for range 200 {
				r := code.NewReader(b)
				if r.U32() != 5 || r.Uv() != 1<<40 || string(r.Text(8)) != "vicinage" || r.Left() != 0 || r.Err() != api.OK {
					t.Error("the same calls tell something else")
				}
			}
		})
	}
	w.Wait()
	stands(t, "the reader with an error", bad, 0, api.ErrBytes)
}

func BenchmarkPutText(b *testing.B) {
	s := make([]byte, 1024)
	for b.Loop() {
		code.PutText(nil, s)
	}
}

func BenchmarkRead(b *testing.B) {
	p := code.PutUv(code.Put64(code.Put32(nil, 1), 2), math.MaxUint64)
	for b.Loop() {
		r := code.NewReader(p)
		r.U32()
		r.U64()
		r.Uv()
	}
}
