package item_test

import (
	"bytes"
	"encoding/hex"
	"fmt"
	"math"
	"math/rand"
	"slices"
	"strings"
	"sync"
	"testing"

	"vicinage/api"
	"vicinage/item"
)

const (
	most  = math.MaxInt32
	least = math.MinInt32
)

func join(parts ...[]byte) []byte { return slices.Concat(parts...) }

func rep(x byte, n int) []byte { return bytes.Repeat([]byte{x}, n) }

// unhex is bytes told by their digits, with blanks between.
func unhex(s string) []byte {
	b, err := hex.DecodeString(strings.ReplaceAll(s, " ", ""))
	if err != nil {
		panic(err)
	}
	return b
}

// all is n components that are the same.
func all(n int, c int32) []int32 {
	v := make([]int32, n)
	for i := range v {
		v[i] = c
	}
	return v
}

func rec(key uint64, v []int32, meta []byte) api.Item {
	return api.Item{Key: key, Vec: v, Meta: meta}
}

// short tells a record, in a line that is not too long.
func short(x api.Item) string {
	return fmt.Sprintf("the key %d, %d components from %v on, %d bytes from %x on", x.Key, len(x.Vec), x.Vec[:min(4, len(x.Vec))], len(x.Meta), x.Meta[:min(4, len(x.Meta))])
}

// slowFixed is n in size bytes, the lowest first, by division.
func slowFixed(n uint64, size int) []byte {
	b := make([]byte, size)
	for i := range b {
		b[i] = byte(n % 256)
		n /= 256
	}
	return b
}

// slowCount is the count of n: its digits to the base 128, by division.
func slowCount(n uint64) []byte {
	b := []byte{byte(n % 128)}
	for n /= 128; n > 0; n /= 128 {
		b[len(b)-1] += 128
		b = append(b, byte(n%128))
	}
	return b
}

// slowForm is a record's form as the chapter's words have it, whether it may be or not.
func slowForm(x api.Item) []byte {
	b := join(slowFixed(x.Key, 8), slowCount(uint64(len(x.Vec))))
	for _, c := range x.Vec {
		n := int64(c)
		if n < 0 {
			n += 1 << 32
		}
		b = append(b, slowFixed(uint64(n), 4)...)
	}
	return join(b, slowCount(uint64(len(x.Meta))), x.Meta)
}

// slowMay is why a record may not be, by the chapter's words.
func slowMay(x api.Item) api.Errno {
	if len(x.Vec) == 0 || len(x.Vec) > 4096 {
		return api.ErrDim
	}
	if len(x.Meta) > 1024 {
		return api.ErrLong
	}
	return api.OK
}

// slowSame tells whether two records are alike, one thing after the other.
func slowSame(a, b api.Item) bool {
	if a.Key != b.Key || len(a.Vec) != len(b.Vec) || len(a.Meta) != len(b.Meta) {
		return false
	}
	for i := range a.Vec {
		if a.Vec[i] != b.Vec[i] {
			return false
		}
	}
	for i := range a.Meta {
		if a.Meta[i] != b.Meta[i] {
			return false
		}
	}
	return true
}

// slowNumber takes a number of size bytes off b; false, if b has too few.
func slowNumber(b []byte, size int) (uint64, []byte, bool) {
	if len(b) < size {
		return 0, nil, false
	}
	var n uint64
	for i := size - 1; i >= 0; i-- {
		n = n*256 + uint64(b[i])
	}
	return n, b[size:], true
}

// slowSmall takes a count below 128 * 128 off b, however long it is written; no
// count of a form is above that.
func slowSmall(b []byte) (int, []byte, bool) {
	n, step := 0, 1
	for i, x := range b {
		if digit := int(x % 128); digit > 0 && i > 1 {
			return 0, nil, false
		} else if i < 2 {
			n += digit * step
			step *= 128
		}
		if x < 128 {
			return n, b[i+1:], true
		}
	}
	return 0, nil, false
}

// slowRead reads carelessly, and then holds the form of what it read against
// the bytes: they are the form of a record that may be, or of none.
func slowRead(b []byte) (api.Item, bool) {
	var x api.Item
	key, rest, ok := slowNumber(b, 8)
	if !ok {
		return api.Item{}, false
	}
	x.Key = key
	n, rest, ok := slowSmall(rest)
	for i := 0; i < n && ok; i++ {
		var c uint64
		c, rest, ok = slowNumber(rest, 4)
		if c >= 1<<31 {
			x.Vec = append(x.Vec, int32(int64(c)-1<<32))
		} else {
			x.Vec = append(x.Vec, int32(c))
		}
	}
	if !ok {
		return api.Item{}, false
	}
	n, rest, ok = slowSmall(rest)
	if !ok || n > len(rest) {
		return api.Item{}, false
	}
	x.Meta = rest[:n]
	if slowMay(x) != api.OK || !bytes.Equal(slowForm(x), b) {
		return api.Item{}, false
	}
	return x, true
}

// dims is counts of components: the edges, both sides of where the count gets
// one byte more, and some between.
func dims() []int {
	return []int{1, 2, 3, 7, 63, 64, 126, 127, 128, 129, 255, 256, 257, 1000, api.MaxDim - 1, api.MaxDim}
}

// lengths is counts of bytes, likewise.
func lengths() []int {
	return []int{0, 1, 2, 3, 5, 63, 64, 126, 127, 128, 129, 255, 256, 257, 1000, api.MaxMeta - 1, api.MaxMeta}
}

// keys is keys at all edges.
func keys() []uint64 {
	return []uint64{0, 1, 127, 128, 255, 256, 1<<31 - 1, 1 << 31, 1<<32 - 1, 1 << 32, 1<<63 - 1, 1 << 63, math.MaxUint64 - 1, math.MaxUint64, 0x0102030405060708, 0xF8F7F6F5F4F3F2F1}
}

// component draws one: an edge, one next to nought, or anything.
func component(r *rand.Rand) int32 {
	switch r.Intn(4) {
	case 0:
		return []int32{least, least + 1, -256, -1, 0, 1, 255, 256, most - 1, most}[r.Intn(10)]
	case 1:
		return int32(r.Intn(7) - 3)
	}
	return int32(r.Uint32())
}

func vector(r *rand.Rand, n int) []int32 {
	v := make([]int32, n)
	for i := range v {
		v[i] = component(r)
	}
	return v
}

func draw(r *rand.Rand, n int) []byte {
	b := make([]byte, n)
	r.Read(b)
	return b
}

// record draws a record of n components and m bytes.
func record(r *rand.Rand, n, m int) api.Item {
	key := r.Uint64() >> r.Intn(64)
	if r.Intn(3) == 0 {
		key = keys()[r.Intn(len(keys()))]
	}
	return rec(key, vector(r, n), draw(r, m))
}

// records is records that may be, of all edges and some between.
func records(r *rand.Rand) []api.Item {
	var l []api.Item
	for _, n := range dims() {
		for _, m := range lengths() {
			l = append(l, record(r, n, m))
		}
	}
	for range 300 {
		l = append(l, record(r, 1+r.Intn(20), r.Intn(30)))
	}
	return l
}

// isNone tells whether all of a record is zero.
func isNone(x api.Item) bool { return x.Key == 0 && len(x.Vec) == 0 && len(x.Meta) == 0 }

// form is Bytes where no error may be.
func form(t *testing.T, x api.Item) []byte {
	t.Helper()
	b, err := item.Bytes(x)
	if err != api.OK {
		t.Fatalf("Bytes of %s: error %d", short(x), err)
	}
	return b
}

// reads tells it, if Read is not what is wanted.
func reads(t *testing.T, what string, b []byte, want api.Item) {
	t.Helper()
	if x, err := item.Read(b); err != api.OK || !slowSame(x, want) {
		t.Errorf("Read of %s: %s, error %d, not %s", what, short(x), err, short(want))
	}
}

// refuses tells it, if Read takes what is no form.
func refuses(t *testing.T, what string, b []byte) {
	t.Helper()
	if x, err := item.Read(b); err != api.ErrBytes || !isNone(x) {
		t.Errorf("Read of %s: %s, error %d, not ErrBytes", what, short(x), err)
	}
}

// P5.1

// known is records and their forms, told by hand.
func known() []struct {
	what string
	x    api.Item
	form []byte
} {
	zero := "00 00 00 00 00 00 00 00"
	return []struct {
		what string
		x    api.Item
		form []byte
	}{
		{"the chapter's example", rec(1, []int32{-1, 2}, []byte("ab")), unhex("01 00 00 00 00 00 00 00 02 ff ff ff ff 02 00 00 00 02 61 62")},
		{"the least", rec(0, []int32{0}, nil), unhex(zero + "01 00 00 00 00 00")},
		{"an empty list beside it", rec(0, []int32{0}, []byte{}), unhex(zero + "01 00 00 00 00 00")},
		{"the greatest key", rec(math.MaxUint64, []int32{1}, nil), unhex("ff ff ff ff ff ff ff ff 01 01 00 00 00 00")},
		{"a key of different bytes", rec(0x0102030405060708, []int32{1}, nil), unhex("08 07 06 05 04 03 02 01 01 01 00 00 00 00")},
		{"the least component", rec(0, []int32{least}, nil), unhex(zero + "01 00 00 00 80 00")},
		{"the greatest component", rec(0, []int32{most}, nil), unhex(zero + "01 ff ff ff 7f 00")},
		{"components at the edges", rec(0, []int32{least, -1, 0, most}, nil), unhex(zero + "04 00 00 00 80 ff ff ff ff 00 00 00 00 ff ff ff 7f 00")},
		{"components next to them", rec(0, []int32{least + 1, -2, 1, most - 1}, nil), unhex(zero + "04 01 00 00 80 fe ff ff ff 01 00 00 00 fe ff ff 7f 00")},
		{"a component of different bytes", rec(0, []int32{0x01020304, -0x01020304}, nil), unhex(zero + "02 04 03 02 01 fc fc fd fe 00")},
		{"a nought beside it", rec(0, []int32{5}, []byte{0}), unhex(zero + "01 05 00 00 00 01 00")},
		{"bytes that are no text", rec(0, []int32{5}, []byte{0xFF, 0x80, 0}), unhex(zero + "01 05 00 00 00 03 ff 80 00")},
		{"127 components", rec(0, all(127, 1), nil), join(rep(0, 8), []byte{0x7F}, bytes.Repeat([]byte{1, 0, 0, 0}, 127), []byte{0})},
		{"128 components", rec(0, all(128, 1), nil), join(rep(0, 8), []byte{0x80, 1}, bytes.Repeat([]byte{1, 0, 0, 0}, 128), []byte{0})},
		{"as many components as may be", rec(0, all(4096, -2), nil), join(rep(0, 8), []byte{0x80, 0x20}, bytes.Repeat([]byte{0xFE, 0xFF, 0xFF, 0xFF}, 4096), []byte{0})},
		{"127 bytes", rec(0, []int32{1}, rep(9, 127)), join(rep(0, 8), []byte{1, 1, 0, 0, 0, 0x7F}, rep(9, 127))},
		{"128 bytes", rec(0, []int32{1}, rep(9, 128)), join(rep(0, 8), []byte{1, 1, 0, 0, 0, 0x80, 1}, rep(9, 128))},
		{"as many bytes as may be", rec(0, []int32{1}, rep(9, 1024)), join(rep(0, 8), []byte{1, 1, 0, 0, 0, 0x80, 8}, rep(9, 1024))},
		{"as much as may be", rec(math.MaxUint64, all(4096, most), rep(255, 1024)), join(rep(255, 8), []byte{0x80, 0x20}, bytes.Repeat([]byte{255, 255, 255, 127}, 4096), []byte{0x80, 8}, rep(255, 1024))},
	}
}

func TestKnownForms(t *testing.T) {
	for _, c := range known() {
		if err := item.May(c.x); err != api.OK {
			t.Errorf("May of %s: %d", c.what, err)
		}
		if b, err := item.Bytes(c.x); err != api.OK || !bytes.Equal(b, c.form) {
			t.Errorf("Bytes of %s: %x, error %d, not %x", c.what, b, err, c.form)
		}
		if n := item.Size(c.x); n != len(c.form) {
			t.Errorf("Size of %s: %d, not %d", c.what, n, len(c.form))
		}
		reads(t, c.what, c.form, c.x)
	}
}

func TestMayKnown(t *testing.T) {
	for _, c := range []struct {
		dim, bytes int
		want       api.Errno
	}{
		{1, 0, api.OK},
		{1, 1024, api.OK},
		{4096, 0, api.OK},
		{4096, 1024, api.OK},
		{0, 0, api.ErrDim},
		{4097, 0, api.ErrDim},
		{4098, 7, api.ErrDim},
		{70000, 7, api.ErrDim},
		{1, 1025, api.ErrLong},
		{4096, 1025, api.ErrLong},
		{2, 1026, api.ErrLong},
		{2, 300000, api.ErrLong},
		// Both at once: ErrDim is told.
		{0, 1024, api.ErrDim},
		{0, 1025, api.ErrDim},
		{4097, 1024, api.ErrDim},
		{4097, 1025, api.ErrDim},
		{0, 300000, api.ErrDim},
		{70000, 300000, api.ErrDim},
	} {
		for _, key := range []uint64{0, 1, math.MaxUint64} {
			x := rec(key, all(c.dim, -1), rep('m', c.bytes))
			if err := item.May(x); err != c.want {
				t.Errorf("May of %s: %d, not %d", short(x), err, c.want)
			}
			b, err := item.Bytes(x)
			if err != c.want || (err == api.OK) != (len(b) > 0) {
				t.Errorf("Bytes of %s: %d bytes, error %d, not %d", short(x), len(b), err, c.want)
			}
			if n := item.Size(x); n != len(b) {
				t.Errorf("Size of %s: %d, not %d", short(x), n, len(b))
			}
		}
	}
}

// The chapter's second example, and other lists of none.
func TestNoVector(t *testing.T) {
	for _, none := range [][]int32{nil, {}, make([]int32, 0, 9)} {
		for _, n := range []int{0, 1, 1024, 1025} {
			x := rec(3, none, rep(1, n))
			b, err := item.Bytes(x)
			if item.May(x) != api.ErrDim || len(b) != 0 || err != api.ErrDim || item.Size(x) != 0 {
				t.Errorf("a vector of none with %d bytes beside it: May %d, Bytes %x, error %d, Size %d", n, item.May(x), b, err, item.Size(x))
			}
		}
	}
}

func TestMayBytesAndSizeAreTheWordsWay(t *testing.T) {
	r := rand.New(rand.NewSource(1))
	l := records(r)
	for _, n := range []int{0, 1, api.MaxDim, api.MaxDim + 1, api.MaxDim + 2} {
		for _, m := range []int{0, 1, api.MaxMeta, api.MaxMeta + 1, api.MaxMeta + 2} {
			l = append(l, record(r, n, m))
		}
	}
	for _, x := range l {
		want := slowMay(x)
		var whole []byte
		if want == api.OK {
			whole = slowForm(x)
		}
		if err := item.May(x); err != want {
			t.Errorf("May of %s: %d, not %d", short(x), err, want)
		}
		if b, err := item.Bytes(x); err != want || !bytes.Equal(b, whole) {
			t.Errorf("Bytes of %s: %d bytes, error %d, not %d bytes, %d, or others", short(x), len(b), err, len(whole), want)
		}
		if n := item.Size(x); n != len(whole) {
			t.Errorf("Size of %s: %d, not %d", short(x), n, len(whole))
		}
	}
}

// Both counts get one byte more behind 127, at each key.
func TestSizeOnBothSidesOfACount(t *testing.T) {
	for _, key := range keys() {
		for _, c := range []struct{ dim, bytes, want int }{
			{1, 0, 14},
			{1, 127, 141},
			{1, 128, 143},
			{1, 1024, 1039},
			{127, 0, 518},
			{128, 0, 523},
			{128, 128, 652},
			{4096, 0, 16395},
			{4096, 1024, 17420},
		} {
			x := rec(key, all(c.dim, least), rep(0, c.bytes))
			if n := item.Size(x); n != c.want {
				t.Errorf("Size of %s: %d, not %d", short(x), n, c.want)
			}
			if b := form(t, x); len(b) != c.want {
				t.Errorf("Bytes of %s: %d bytes, not %d", short(x), len(b), c.want)
			}
		}
	}
}

// No form is greater than what the document says of them.
func TestGreatestForm(t *testing.T) {
	if n := item.Size(rec(math.MaxUint64, all(api.MaxDim, least), rep(255, api.MaxMeta))); n > api.MaxItem {
		t.Errorf("the greatest form has %d bytes, more than MaxItem", n)
	}
}

// P5.2

// Each way of cutting a form, and each byte behind it; of long forms where
// their parts meet.
func TestReadRefusesWhatIsCutOrLonger(t *testing.T) {
	for _, c := range known() {
		for n := range c.form {
			if n < 200 || n > len(c.form)-200 || n%97 == 0 {
				refuses(t, fmt.Sprintf("%s, cut at %d", c.what, n), c.form[:n])
			}
		}
		for x := range 256 {
			refuses(t, fmt.Sprintf("%s with %x behind it", c.what, x), join(c.form, []byte{byte(x)}))
		}
		refuses(t, c.what+", twice", join(c.form, c.form))
		refuses(t, c.what+" with many bytes behind it", join(c.form, rep(0, 70000)))
		refuses(t, c.what+" with a byte ahead", join([]byte{0}, c.form))
	}
}

func TestReadRefusesWhatIsNoForm(t *testing.T) {
	key := unhex("01 00 00 00 00 00 00 00")
	five := unhex("05 00 00 00")
	huge := rep(0xFF, 9)
	for _, c := range []struct {
		what string
		b    []byte
	}{
		{"nothing", nil},
		{"no bytes", []byte{}},
		{"no bytes with room", make([]byte, 0, 40)},
		{"a nought", []byte{0}},
		{"many noughts", rep(0, 20000)},
		{"many ff", rep(0xFF, 20000)},
		{"a text", []byte("a record")},
		{"a key alone", key},
		// A count of components that may not be.
		{"no components, and nothing behind", join(key, []byte{0})},
		{"no components", join(key, []byte{0, 0})},
		{"no components, and a text", join(key, []byte{0, 2, 'a', 'b'})},
		{"no components, and one that is there", join(key, []byte{0}, five, []byte{0})},
		{"4097 components that are there", join(key, []byte{0x81, 0x20}, bytes.Repeat(five, 4097), []byte{0})},
		{"4097 components that are not there", join(key, []byte{0x81, 0x20, 0})},
		{"16383 components that are there", join(key, []byte{0xFF, 0x7F}, bytes.Repeat(five, 16383), []byte{0})},
		{"2^32 + 1 components", join(key, []byte{0x81, 0x80, 0x80, 0x80, 0x10}, five, []byte{0})},
		{"2^63 components", join(key, rep(0x80, 9), []byte{1}, five, []byte{0})},
		{"2^64 - 1 components", join(key, huge, []byte{1}, five, []byte{0})},
		{"2^64 components", join(key, rep(0x80, 9), []byte{2}, five, []byte{0})},
		{"a count of eleven bytes", join(key, rep(0x80, 10), []byte{0}, five, []byte{0})},
		{"a count that does not end", join(key, huge)},
		// More components than are left.
		{"two components, of which one is there", join(key, []byte{2}, five, []byte{0})},
		{"two components, of which seven bytes are there", join(key, []byte{2}, five, []byte{0, 0, 0})},
		{"two components and no text", join(key, []byte{2}, five, five)},
		{"4096 components, of which one is there", join(key, []byte{0x80, 0x20}, five, []byte{0})},
		// A text that may not be.
		{"1025 bytes that are there", join(key, []byte{1}, five, []byte{0x81, 8}, rep('m', 1025))},
		{"1025 bytes that are not there", join(key, []byte{1}, five, []byte{0x81, 8})},
		{"16384 bytes that are there", join(key, []byte{1}, five, []byte{0x80, 0x80, 1}, rep('m', 16384))},
		{"1024 bytes, of which one is missing", join(key, []byte{1}, five, []byte{0x80, 8}, rep('m', 1023))},
		{"1024 bytes, and one more", join(key, []byte{1}, five, []byte{0x80, 8}, rep('m', 1025))},
		{"two bytes, of which one is there", join(key, []byte{1}, five, []byte{2, 'a'})},
		{"one byte, of which two are there", join(key, []byte{1}, five, []byte{1, 'a', 'b'})},
		{"no byte, of which one is there", join(key, []byte{1}, five, []byte{0, 'a'})},
		{"2^63 bytes", join(key, []byte{1}, five, rep(0x80, 9), []byte{1, 'a'})},
		{"2^64 - 1 bytes", join(key, []byte{1}, five, huge, []byte{1, 'a'})},
		{"2^64 bytes", join(key, []byte{1}, five, rep(0x80, 9), []byte{2, 'a'})},
		{"a text's count that does not end", join(key, []byte{1}, five, []byte{0x80})},
		// Counts that are longer than they need be.
		{"one component in two bytes", join(key, []byte{0x81, 0}, five, []byte{0})},
		{"one component in ten bytes", join(key, []byte{0x81}, rep(0x80, 8), []byte{0}, five, []byte{0})},
		{"127 components in two bytes", join(key, []byte{0xFF, 0}, bytes.Repeat(five, 127), []byte{0})},
		{"128 components in three bytes", join(key, []byte{0x80, 0x81, 0}, bytes.Repeat(five, 128), []byte{0})},
		{"no components in two bytes", join(key, []byte{0x80, 0}, five, []byte{0})},
		{"no bytes in two bytes", join(key, []byte{1}, five, []byte{0x80, 0})},
		{"two bytes in two bytes", join(key, []byte{1}, five, []byte{0x82, 0, 'a', 'b'})},
		{"1024 bytes in three bytes", join(key, []byte{1}, five, []byte{0x80, 0x88, 0}, rep('m', 1024))},
		// Both too much at once.
		{"4097 components and 1025 bytes", join(key, []byte{0x81, 0x20}, bytes.Repeat(five, 4097), []byte{0x81, 8}, rep('m', 1025))},
		{"no components and 1025 bytes", join(key, []byte{0, 0x81, 8}, rep('m', 1025))},
	} {
		refuses(t, c.what, c.b)
	}
}

// Forms of records that may not be are forms of none.
func TestReadRefusesRecordsThatMayNotBe(t *testing.T) {
	r := rand.New(rand.NewSource(2))
	for _, n := range []int{0, 1, 2, api.MaxDim, api.MaxDim + 1, api.MaxDim + 2, 5000} {
		for _, m := range []int{0, 1, api.MaxMeta, api.MaxMeta + 1, api.MaxMeta + 2, 5000} {
			x := record(r, n, m)
			if slowMay(x) == api.OK {
				reads(t, short(x), slowForm(x), x)
			} else {
				refuses(t, short(x), slowForm(x))
			}
		}
	}
}

// readsAsTheWords tells it, if Read is not what the chapter's words have of b;
// it tells whether b is a form.
func readsAsTheWords(t *testing.T, b []byte) bool {
	t.Helper()
	want, ok := slowRead(b)
	if ok {
		reads(t, fmt.Sprintf("%x", b), b, want)
	} else {
		refuses(t, fmt.Sprintf("%x", b), b)
	}
	return ok
}

// Each byte of a form made each other byte.
func TestReadOfOneByteTurned(t *testing.T) {
	for _, x := range []api.Item{rec(1, []int32{-1, 2}, []byte("ab")), rec(0, []int32{0}, nil), rec(7, all(3, 0), rep(0, 20)), rec(7, all(20, 1), rep(1, 3))} {
		b := form(t, x)
		for i := range b {
			for v := range 256 {
				turned := slices.Clone(b)
				turned[i] = byte(v)
				readsAsTheWords(t, turned)
			}
		}
	}
}

// Bytes of few values, so that many of them are forms; and forms with some
// bytes turned, cut out, or put in.
func TestReadIsTheWordsWay(t *testing.T) {
	r := rand.New(rand.NewSource(3))
	forms := 0
	for range 60000 {
		b := draw(r, 8+r.Intn(20))
		for i := 8; i < len(b); i++ {
			b[i] = []byte{0, 0, 1, 2, 3, 4, 5, 128, 129, 255}[r.Intn(10)]
		}
		if len(b) > 8 {
			b[8] = byte(r.Intn(4))
		}
		if readsAsTheWords(t, b) {
			forms++
		}
	}
	for range 60000 {
		b := form(t, record(r, 1+r.Intn(5), r.Intn(6)))
		for range r.Intn(3) {
			i := r.Intn(len(b))
			switch r.Intn(3) {
			case 0:
				b[i] = byte(r.Intn(256))
			case 1:
				b = slices.Insert(b, i, byte(r.Intn(4)))
			default:
				b = slices.Delete(b, i, i+1)
			}
		}
		if readsAsTheWords(t, b) {
			forms++
		}
	}
	if forms < 1000 {
		t.Errorf("only %d forms were drawn", forms)
	}
}

// P5.3

// sameIs tells it, if Same is not what is wanted, either way.
func sameIs(t *testing.T, what string, a, b api.Item, want bool) {
	t.Helper()
	if item.Same(a, b) != want || item.Same(b, a) != want {
		t.Errorf("Same of %s: %v, %v the other way, not %v", what, item.Same(a, b), item.Same(b, a), want)
	}
}

func TestSameKnown(t *testing.T) {
	x := func() api.Item { return rec(7, []int32{1, -2, 3}, []byte("abc")) }
	sameIs(t, "one record and itself", x(), x(), true)
	sameIs(t, "two of nothing", api.Item{}, api.Item{}, true)
	for _, c := range []struct {
		what string
		y    api.Item
	}{
		{"another key", rec(8, x().Vec, x().Meta)},
		{"the key 0", rec(0, x().Vec, x().Meta)},
		{"a key 2^32 above", rec(7+1<<32, x().Vec, x().Meta)},
		{"a key 2^63 above", rec(7+1<<63, x().Vec, x().Meta)},
		{"another first component", rec(7, []int32{0, -2, 3}, x().Meta)},
		{"another component between", rec(7, []int32{1, 2, 3}, x().Meta)},
		{"another last component", rec(7, []int32{1, -2, least}, x().Meta)},
		{"components in another order", rec(7, []int32{3, -2, 1}, x().Meta)},
		{"a component less", rec(7, []int32{1, -2}, x().Meta)},
		{"a component more", rec(7, []int32{1, -2, 3, 0}, x().Meta)},
		{"a component more ahead", rec(7, []int32{0, 1, -2, 3}, x().Meta)},
		{"no components", rec(7, nil, x().Meta)},
		{"another first byte", rec(7, x().Vec, []byte("Abc"))},
		{"another byte between", rec(7, x().Vec, []byte("a\x00c"))},
		{"another last byte", rec(7, x().Vec, []byte("abd"))},
		{"bytes in another order", rec(7, x().Vec, []byte("cba"))},
		{"a byte less", rec(7, x().Vec, []byte("ab"))},
		{"a byte more", rec(7, x().Vec, []byte("abc\x00"))},
		{"a byte more ahead", rec(7, x().Vec, []byte("\x00abc"))},
		{"no bytes", rec(7, x().Vec, nil)},
		{"nothing", api.Item{}},
	} {
		sameIs(t, c.what, x(), c.y, false)
		sameIs(t, c.what+", of both", c.y, c.y, true)
	}
}

// None and an empty list are one.
func TestSameOfNone(t *testing.T) {
	for _, v := range [][]int32{nil, {}, make([]int32, 0, 5)} {
		for _, w := range [][]int32{nil, {}, all(2, 1)[:0]} {
			for _, m := range [][]byte{nil, {}, make([]byte, 0, 5)} {
				for _, n := range [][]byte{nil, {}, []byte("ab")[:0]} {
					sameIs(t, "none", rec(5, v, m), rec(5, w, n), true)
					sameIs(t, "none and another key", rec(5, v, m), rec(6, w, n), false)
					sameIs(t, "none and a nought", rec(5, v, m), rec(5, []int32{0}, n), false)
					sameIs(t, "none and a byte", rec(5, v, m), rec(5, w, []byte{0}), false)
				}
			}
		}
	}
}

// Records of one component, or byte, that differs, wherever it stands; also of
// those that may not be.
func TestSameGoesOverAll(t *testing.T) {
	for _, n := range []int{1, 2, 9, 100, api.MaxDim, api.MaxDim + 1, 5000} {
		x, y := rec(9, all(n, 4), rep(4, n)), rec(9, all(n, 4), rep(4, n))
		sameIs(t, "two that are alike", x, y, true)
		for i := range n {
			if i > 20 && i < n-20 && i%61 != 0 {
				continue
			}
			y.Vec[i] = -4
			sameIs(t, fmt.Sprintf("two of %d components that differ in number %d", n, i), x, y, false)
			y.Vec[i] = 4
			y.Meta[i] = 5
			sameIs(t, fmt.Sprintf("two of %d bytes that differ in number %d", n, i), x, y, false)
			y.Meta[i] = 4
		}
		sameIs(t, "two of which one is shorter", x, rec(9, x.Vec[:n-1], x.Meta), false)
		sameIs(t, "two of which one has less beside it", x, rec(9, x.Vec, x.Meta[:n-1]), false)
	}
}

func TestSameIsTheWordsWay(t *testing.T) {
	r := rand.New(rand.NewSource(4))
	few := func() api.Item {
		x := rec(uint64(r.Intn(2)), make([]int32, r.Intn(3)), make([]byte, r.Intn(3)))
		for i := range x.Vec {
			x.Vec[i] = int32(r.Intn(2))
		}
		for i := range x.Meta {
			x.Meta[i] = byte(r.Intn(2))
		}
		return x
	}
	for range 50000 {
		a, b := few(), few()
		sameIs(t, fmt.Sprint(a, b), a, b, slowSame(a, b))
	}
}

// P5.4

func TestReadOfBytesIsTheRecord(t *testing.T) {
	r := rand.New(rand.NewSource(5))
	for _, x := range records(r) {
		b := form(t, x)
		y, err := item.Read(b)
		if err != api.OK || !item.Same(x, y) || !slowSame(x, y) {
			t.Fatalf("Read of Bytes of %s: %s, error %d", short(x), short(y), err)
		}
		if again := form(t, y); !bytes.Equal(again, b) {
			t.Fatalf("Bytes of Read of the form of %s: another form", short(x))
		}
	}
}

// Forms that were not made by Bytes are what Bytes makes again.
func TestBytesOfReadAreTheBytes(t *testing.T) {
	r := rand.New(rand.NewSource(6))
	for _, n := range dims() {
		for _, m := range lengths() {
			b := join(draw(r, 8), slowCount(uint64(n)), draw(r, 4*n), slowCount(uint64(m)), draw(r, m))
			x, err := item.Read(b)
			if err != api.OK {
				t.Fatalf("Read of a form of %d components and %d bytes: error %d", n, m, err)
			}
			if again := form(t, x); !bytes.Equal(again, b) {
				t.Fatalf("Bytes of Read of a form of %d components and %d bytes: another form", n, m)
			}
			if size := item.Size(x); size != len(b) {
				t.Fatalf("Size of a record read of %d bytes: %d", len(b), size)
			}
		}
	}
}

func TestFormsCutOrLongerAreNone(t *testing.T) {
	r := rand.New(rand.NewSource(7))
	for range 300 {
		b := form(t, record(r, 1+r.Intn(140), r.Intn(140)))
		for n := range b {
			refuses(t, fmt.Sprintf("%d of %d bytes of a form", n, len(b)), b[:n])
		}
		refuses(t, "a form with a byte behind it", join(b, draw(r, 1)))
		refuses(t, "a form with bytes behind it", join(b, draw(r, 2+r.Intn(9))))
	}
}

// Records that are not alike have different forms.
func TestFormsTellRecordsApart(t *testing.T) {
	r := rand.New(rand.NewSource(8))
	seen := map[string]api.Item{}
	for range 20000 {
		x := rec(uint64(r.Intn(2)), vector(r, 1+r.Intn(2)), make([]byte, r.Intn(3)))
		b := string(form(t, x))
		if y, ok := seen[b]; ok && !slowSame(x, y) {
			t.Fatalf("%s and %s have one form", short(x), short(y))
		}
		seen[b] = x
	}
}

// P1

// roomy is a copy of b with other bytes around it, and all of these.
func roomy(r *rand.Rand, b []byte) (inner, around []byte) {
	around = join(draw(r, 10), b, draw(r, 40))
	return around[10 : 10+len(b)], around
}

// roomyVec is likewise a copy of a vector.
func roomyVec(r *rand.Rand, v []int32) (inner, around []int32) {
	around = slices.Concat(vector(r, 10), v, vector(r, 40))
	return around[10 : 10+len(v)], around
}

// A record that is handed in stays, the room around its lists too; the form
// shares no memory with it, nor with another form.
func TestRecordsAreLeftAndFormsAreNew(t *testing.T) {
	r := rand.New(rand.NewSource(9))
	for _, n := range []int{0, 1, 2, 128, api.MaxDim, api.MaxDim + 1} {
		for _, m := range []int{0, 1, 2, 128, api.MaxMeta, api.MaxMeta + 1} {
			v, aroundV := roomyVec(r, vector(r, n))
			b, aroundB := roomy(r, draw(r, m))
			keptV, keptB := slices.Clone(aroundV), slices.Clone(aroundB)
			x := rec(5, v, b)
			item.May(x)
			item.Size(x)
			item.Same(x, x)
			item.Same(x, rec(5, aroundV, aroundB))
			one, err := item.Bytes(x)
			two, _ := item.Bytes(x)
			want := slices.Clone(one)
			// Writing over an answer, its spare room too, and over what was handed in, changes nothing else.
			clear(two[:cap(two)])
			if !slices.Equal(aroundV, keptV) || !bytes.Equal(aroundB, keptB) {
				t.Errorf("%s: what was handed in is another now", short(x))
			}
			clear(aroundV)
			clear(aroundB)
			if !bytes.Equal(one, want) || err == api.OK && !bytes.Equal(one, slowForm(rec(5, keptV[10:10+n], keptB[10:10+m]))) {
				t.Errorf("%s: the form shares memory", short(x))
			}
			copy(aroundB, rep(7, len(aroundB)))
			clear(one[:cap(one)])
			if !bytes.Equal(aroundB, rep(7, len(aroundB))) {
				t.Errorf("%s: the form shares memory with what was handed in", short(x))
			}
		}
	}
}

// Bytes that are read stay, the room around them too; the record shares no
// memory with them, nor with another record.
func TestBytesAreLeftAndRecordsAreNew(t *testing.T) {
	r := rand.New(rand.NewSource(10))
	for _, n := range []int{1, 2, 128, api.MaxDim} {
		for _, m := range []int{0, 1, 2, 128, api.MaxMeta} {
			want := record(r, n, m)
			b, around := roomy(r, slowForm(want))
			kept := slices.Clone(around)
			one, err := item.Read(b)
			two, _ := item.Read(b)
			if err != api.OK || !bytes.Equal(around, kept) {
				t.Errorf("Read of %s: error %d, or the bytes are others now", short(want), err)
			}
			clear(two.Vec[:cap(two.Vec)])
			clear(two.Meta[:cap(two.Meta)])
			if !bytes.Equal(around, kept) {
				t.Errorf("Read of %s: the record shares memory with the bytes", short(want))
			}
			clear(around)
			if !slowSame(one, want) {
				t.Errorf("Read of %s: the record shares memory", short(want))
			}
		}
	}
	// What is no form stays too.
	for range 1000 {
		b, around := roomy(r, draw(r, r.Intn(60)))
		kept := slices.Clone(around)
		item.Read(b)
		if !bytes.Equal(around, kept) {
			t.Fatalf("Read of %x: the bytes are others now", b)
		}
	}
}

// A form is read alone, whatever stands behind it in the same memory.
func TestReadIsBoundByWhatIsHandedIn(t *testing.T) {
	r := rand.New(rand.NewSource(11))
	x := record(r, 3, 5)
	b, _ := roomy(r, slowForm(x))
	reads(t, "a form with room behind it", b, x)
	for n := range b {
		refuses(t, fmt.Sprintf("the first %d bytes, the others behind them", n), b[:n])
	}
}

// Many callers at once tell the same as one alone.
func TestCallsKnowNothingOfEachOther(t *testing.T) {
	r := rand.New(rand.NewSource(12))
	x, y := record(r, 200, 300), record(r, 3, 5)
	want := slowForm(x)
	var every sync.WaitGroup
	for range 8 {
		every.Go(func() {
			for range 50 {
				item.Read(want[:len(want)-1])
				item.Bytes(y)
				b, err := item.Bytes(x)
				z, bad := item.Read(want)
				if err != api.OK || bad != api.OK || !bytes.Equal(b, want) || !slowSame(x, z) || item.Size(x) != len(want) || item.Same(x, y) {
					t.Error("a call beside others tells another")
				}
			}
		})
	}
	every.Wait()
}

func BenchmarkBytes(b *testing.B) {
	x := record(rand.New(rand.NewSource(13)), api.MaxDim, api.MaxMeta)
	for b.Loop() {
		item.Bytes(x)
	}
}

func BenchmarkRead(b *testing.B) {
	form := slowForm(record(rand.New(rand.NewSource(14)), api.MaxDim, api.MaxMeta))
	for b.Loop() {
		item.Read(form)
	}
}
