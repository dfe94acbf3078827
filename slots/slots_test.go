package slots_test

import (
	"bytes"
	"fmt"
	"math"
	"math/rand"
	"slices"
	"strings"
	"sync"
	"testing"

	"vicinage/api"
	"vicinage/slots"
)

// of is a body with these texts in its slots, "-" for a slot that has nothing.
func of(texts ...string) api.Slots {
	var s api.Slots
	for _, x := range texts {
		var data []byte
		if x != "-" {
			data = []byte(x)
		}
		s.Full, s.Data = append(s.Full, x != "-"), append(s.Data, data)
	}
	return s
}

// long is a text of n bytes, none of them 0.
func long(n int) string {
	var b strings.Builder
	for i := range n {
		b.WriteByte(byte(1 + i%250))
	}
	return b.String()
}

// many is n texts that are alike.
func many(x string, n int) []string { return slices.Repeat([]string{x}, n) }

// list is texts, one list behind the other.
func list(parts ...[]string) []string { return slices.Concat(parts...) }

// headed is a body with another Kind and Next.
func headed(kind byte, next uint32, s api.Slots) api.Slots {
	s.Kind, s.Next = kind, next
	return s
}

// same tells whether two bodies are the same.
func same(s, u api.Slots) bool {
	return s.Kind == u.Kind && s.Next == u.Next && slices.Equal(s.Full, u.Full) && slices.EqualFunc(s.Data, u.Data, bytes.Equal)
}

// zero tells whether a body is just zero.
func zero(s api.Slots) bool {
	return s.Kind == 0 && s.Next == 0 && len(s.Full) == 0 && len(s.Data) == 0
}

// clone is a body like s, in other memory.
func clone(s api.Slots) api.Slots {
	s.Full, s.Data = append([]bool{}, s.Full...), append([][]byte{}, s.Data...)
	for i, d := range s.Data {
		s.Data[i] = append([]byte{}, d...)
	}
	return s
}

// tell is a body in words.
func tell(s api.Slots) string {
	b := fmt.Sprintf("%d/%d", s.Kind, s.Next)
	for i, d := range s.Data {
		full := i < len(s.Full) && s.Full[i]
		b += fmt.Sprintf(" %t:%x", full, d)
	}
	if len(s.Full) != len(s.Data) {
		b += fmt.Sprintf(" (Full %v)", s.Full)
	}
	return b
}

// slowMay is whether a body may be, by the chapter's words.
func slowMay(s api.Slots) bool {
	if len(s.Full) != len(s.Data) {
		return false
	}
	if n := len(s.Full); n > 0 && s.Full[n-1] == false {
		return false
	}
	for i := range s.Full {
		if !s.Full[i] && len(s.Data[i]) != 0 {
			return false
		}
	}
	return slowRoom(s) <= 500
}

// slowRoom is the room that a body takes, by the chapter's words.
func slowRoom(s api.Slots) int {
	return 6 + 2*len(s.Full) + len(bytes.Join(s.Data, nil))
}

// slowBytes is the form of a body that may be, by the chapter's words.
func slowBytes(s api.Slots) []byte {
	b := []byte{s.Kind, byte(s.Next), byte(s.Next >> 8), byte(s.Next >> 16), byte(s.Next >> 24), byte(len(s.Full))}
	for i, full := range s.Full {
		n := 0
		if full {
			n = len(s.Data[i]) + 1
		}
		b = append(b, byte(n%256), byte(n/256))
	}
	b = append(b, bytes.Join(s.Data, nil)...)
	return append(b, make([]byte, 500-len(b))...)
}

// slowRead is the body that has just this form, by the chapter's words.
func slowRead(b []byte) (api.Slots, bool) {
	if len(b) != 500 || b[5] > 247 {
		return api.Slots{}, false
	}
	s := api.Slots{Kind: b[0], Next: uint32(b[1]) + uint32(b[2])<<8 + uint32(b[3])<<16 + uint32(b[4])<<24}
	at := 6 + 2*int(b[5])
	for i := range int(b[5]) {
		m := int(b[6+2*i]) + 256*int(b[7+2*i])
		end := at + max(m-1, 0)
		if end > 500 {
			return api.Slots{}, false
		}
		s.Full, s.Data = append(s.Full, m != 0), append(s.Data, b[at:end])
		at = end
	}
	s = clone(s)
	if !slowMay(s) || !bytes.Equal(slowBytes(s), b) {
		return api.Slots{}, false
	}
	return s, true
}

// form is bytes of a form by hand: its Kind, Next 0, how many slots, their marks, what comes behind, noughts up to 500.
func form(kind byte, marks []int, rest string) []byte {
	b := []byte{kind, 0, 0, 0, 0, byte(len(marks))}
	for _, m := range marks {
		b = append(b, byte(m), byte(m>>8))
	}
	b = append(b, rest...)
	return append(b, make([]byte, max(0, 500-len(b)))...)
}

// named is a body with a name.
type named struct {
	name string
	s    api.Slots
}

// mayBe is bodies that may be.
func mayBe() []named {
	return []named{
		{"no slot", of()},
		{"no slot, lists that are there", api.Slots{Full: []bool{}, Data: [][]byte{}}},
		{"one of 0 bytes, nil", api.Slots{Full: []bool{true}, Data: [][]byte{nil}}},
		{"one of 0 bytes", api.Slots{Full: []bool{true}, Data: [][]byte{{}}}},
		{"one of 1", of("a")},
		{"one of 0, as a byte", of("\x00")},
		{"one of 254", of(long(254))},
		{"one of 255", of(long(255))},
		{"one of 256", of(long(256))},
		{"one of 491", of(long(491))},
		{"one of 492", of(long(492))},
		{"one of 492 noughts", of(string(make([]byte, 492)))},
		{"246 slots", of(many("", 246)...)},
		{"246 slots, one of 1", of(list(many("", 245), []string{"a"})...)},
		{"246 slots, one of 2", of(list(many("", 100), []string{"ab"}, many("", 145))...)},
		{"247 slots", of(many("", 247)...)},
		{"247 slots, only the last has something", of(list(many("-", 246), []string{""})...)},
		{"164 slots of 1: 498", of(many("a", 164)...)},
		{"164 slots of 1 and 2 more: just 500", of(list(many("a", 164), []string{""})...)},
		{"123 slots of 2: 498", of(many("ab", 123)...)},
		{"123 slots of 2, one of none: just 500", of(list([]string{""}, many("ab", 123))...)},
		{"two of just 500", of(long(245), long(245))},
		{"two, the one ahead has nothing, just 500", of("-", long(490))},
		{"what has nothing, in the middle", of("ab", "-", "c")},
		{"what has nothing, ahead", of("-", "-", "", "-", "c")},
		{"nothing, as an empty list", api.Slots{Full: []bool{false, true}, Data: [][]byte{{}, []byte("x")}}},
		{"Kind 255", headed(255, 0, of("a"))},
		{"Kind 1 of none", headed(1, 0, of())},
		{"Next 1", headed(0, 1, of("a"))},
		{"the greatest Next", headed(0, math.MaxUint32, of())},
		{"both the greatest, full", headed(255, math.MaxUint32, of(long(492)))},
		{"Next of four bytes", headed(7, 0x04030201, of("ab", "-", "", "c"))},
	}
}

// mayNotBe is bodies that may not be.
func mayNotBe() []named {
	return []named{
		{"Full longer by one", api.Slots{Full: []bool{true, true}, Data: [][]byte{{1}}}},
		{"Full alone", api.Slots{Full: []bool{true}}},
		{"Full alone, with nothing", api.Slots{Full: []bool{false}}},
		{"Full longer, nothing at its end", api.Slots{Full: []bool{true, false}, Data: [][]byte{{1}}}},
		{"Data longer by one", api.Slots{Full: []bool{true}, Data: [][]byte{{1}, {2}}}},
		{"Data longer by one without bytes", api.Slots{Full: []bool{true}, Data: [][]byte{{1}, nil}}},
		{"Data alone", api.Slots{Data: [][]byte{{1}}}},
		{"Data alone without bytes", api.Slots{Data: [][]byte{nil}}},
		{"nothing that has a byte", api.Slots{Full: []bool{false, true}, Data: [][]byte{{1}, {2}}}},
		{"nothing that has a nought", api.Slots{Full: []bool{true, false, true}, Data: [][]byte{{1}, {0}, {2}}}},
		{"the last one nothing", of("a", "-")},
		{"the only one nothing", of("-")},
		{"the last two nothing", of("a", "-", "-")},
		{"the last one nothing that has a byte", api.Slots{Full: []bool{true, false}, Data: [][]byte{{1}, {2}}}},
		{"one of 493", of(long(493))},
		{"one of 494", of(long(494))},
		{"one of 2^16 - 1", of(long(1<<16 - 1))},
		{"one of 2^16", of(long(1 << 16))},
		{"one of 2^16 + 1", of(long(1<<16 + 1))},
		{"two of 501 by their bytes", of(long(245), long(246))},
		{"two of 501, one has nothing", of("-", long(491))},
		{"246 slots, 501 by their bytes", of(list(many("", 245), []string{"abc"})...)},
		{"247 slots, 501 by a byte", of(list(many("", 246), []string{"a"})...)},
		{"247 slots, 501 by a byte ahead", of(list([]string{"a"}, many("", 246))...)},
		{"164 slots of 1, one more of 1: 501", of(many("a", 165)...)},
		{"248 slots", of(many("", 248)...)},
		{"248 slots, only the last has something", of(list(many("-", 247), []string{""})...)},
		{"255 slots", of(many("", 255)...)},
		{"256 slots", of(many("", 256)...)},
		{"257 slots", of(many("", 257)...)},
		{"70000 slots", of(many("", 70000)...)},
		{"40 of 2^16", of(many(long(1<<16), 40)...)},
		{"Kind and Next, too", headed(9, 9, of("-"))},
	}
}

// refused tells it, if a call answered another error, or a body beside it.
func refused(t *testing.T, what string, s api.Slots, err, want api.Errno) {
	t.Helper()
	if err != want || !zero(s) {
		t.Errorf("%s: error %d, %s, not %d and nothing", what, err, tell(s), want)
	}
}

// gives tells it, if a call did not answer the body that is wanted.
func gives(t *testing.T, what string, s api.Slots, err api.Errno, want api.Slots) {
	t.Helper()
	if err != api.OK || !same(s, want) {
		t.Errorf("%s: error %d, %s, not %s", what, err, tell(s), tell(want))
	}
}

// unread tells it, if Read does not tell ErrBytes, and nothing beside it.
func unread(t *testing.T, what string, b []byte) {
	t.Helper()
	s, err := slots.Read(b)
	refused(t, what+": Read", s, err, api.ErrBytes)
}

// reads tells it, if bytes are not read as a body.
func reads(t *testing.T, what string, b []byte, want api.Slots) {
	t.Helper()
	s, err := slots.Read(b)
	gives(t, what+": Read", s, err, want)
}

// inserts is Insert, where no error may be, and just this slot.
func inserts(t testing.TB, s api.Slots, x string, want int) api.Slots {
	t.Helper()
	u, at, err := slots.Insert(s, []byte(x))
	if err != api.OK || at != want {
		t.Fatalf("Insert of %d bytes into %s: error %d, slot %d, not %d", len(x), tell(s), err, at, want)
	}
	return u
}

// unfit tells it, if Insert of n bytes does not tell ErrFull, and nothing beside it.
func unfit(t *testing.T, what string, s api.Slots, n int) {
	t.Helper()
	u, at, err := slots.Insert(s, []byte(long(n)))
	refused(t, what+": Insert", u, err, api.ErrFull)
	if at != 0 {
		t.Errorf("%s: Insert: ErrFull, and the slot %d", what, at)
	}
}

// P8.1

func TestMayBe(t *testing.T) {
	for _, x := range mayBe() {
		if !slots.May(x.s) {
			t.Errorf("%s: it may not be", x.name)
		}
	}
}

func TestMayNotBe(t *testing.T) {
	for _, x := range mayNotBe() {
		if slots.May(x.s) {
			t.Errorf("%s: it may be", x.name)
		}
		if b, err := slots.Bytes(x.s); err != api.ErrArg || len(b) > 0 {
			t.Errorf("%s: Bytes: error %d and %d bytes, not ErrArg", x.name, err, len(b))
		}
		if n := slots.Room(x.s); n != 0 {
			t.Errorf("%s: Room: %d, not 0", x.name, n)
		}
	}
}

func TestFormsByHand(t *testing.T) {
	for _, x := range []struct {
		name string
		s    api.Slots
		form []byte
	}{
		{"no slot", of(), make([]byte, 500)},
		{"Kind and Next", headed(9, 0x04030201, of()), append([]byte{9, 1, 2, 3, 4}, make([]byte, 495)...)},
		{"the greatest ones", headed(255, math.MaxUint32, of()), append(bytes.Repeat([]byte{255}, 5), make([]byte, 495)...)},
		{"one of no bytes", of(""), form(0, []int{1}, "")},
		{"one of a byte", of("a"), form(0, []int{2}, "a")},
		{"one of 254", of(long(254)), form(0, []int{255}, long(254))},
		{"one of 255: its mark's second byte", of(long(255)), form(0, []int{256}, long(255))},
		{"one of 492", of(long(492)), form(0, []int{493}, long(492))},
		{"three, the middle one has nothing", headed(3, 0, of("ab", "-", "c")), form(3, []int{3, 0, 2}, "abc")},
		{"nothing, no bytes, bytes", of("-", "", "xyz"), form(0, []int{0, 1, 4}, "xyz")},
		{"247 of no bytes", of(many("", 247)...), form(0, slices.Repeat([]int{1}, 247), "")},
		{"247, the last alone", of(list(many("-", 246), []string{""})...), form(0, append(make([]int, 246), 1), "")},
		{"two that fill it", of(long(245), long(245)), form(0, []int{246, 246}, long(245)+long(245))},
	} {
		b, err := slots.Bytes(x.s)
		if err != api.OK || !bytes.Equal(b, x.form) {
			t.Errorf("%s: Bytes: error %d, %x, not %x", x.name, err, b, x.form)
		}
		reads(t, x.name, x.form, x.s)
	}
}

func TestBytesOfAllThatMayBe(t *testing.T) {
	for _, x := range mayBe() {
		b, err := slots.Bytes(x.s)
		if err != api.OK || !bytes.Equal(b, slowBytes(x.s)) {
			t.Errorf("%s: Bytes: error %d, %x, not %x", x.name, err, b, slowBytes(x.s))
		}
	}
}

func TestReadOfOtherLengths(t *testing.T) {
	whole := slowBytes(of("ab", "-", "c"))
	for _, n := range []int{0, 1, 5, 6, 12, 15, 498, 499} {
		unread(t, fmt.Sprint("a form cut to ", n), whole[:n])
		unread(t, fmt.Sprint("noughts: ", n), make([]byte, n))
	}
	unread(t, "nil", nil)
	for _, n := range []int{1, 2, 12, 500, 70000} {
		unread(t, fmt.Sprint("noughts behind: ", n), append(bytes.Clone(whole), make([]byte, n)...))
		unread(t, fmt.Sprint("noughts: ", 500+n), make([]byte, 500+n))
	}
	// Full up to the last byte, and one byte more or less.
	full := slowBytes(of(long(492)))
	unread(t, "a full one cut", full[:499])
	unread(t, "a full one and a byte", append(bytes.Clone(full), 1))
	reads(t, "a full one", full, of(long(492)))
	reads(t, "500 noughts", make([]byte, 500), of())
}

func TestReadOfEachCountOfSlots(t *testing.T) {
	for n := range 256 {
		what := fmt.Sprint(n, " slots of no bytes")
		b := form(0, slices.Repeat([]int{1}, n), "")
		if n <= 247 {
			reads(t, what, b[:500], of(many("", n)...))
		} else {
			unread(t, what, b)
			unread(t, what+", cut", b[:500])
		}
		// Nothing stands in the slots that are counted, so the last one has nothing.
		b = make([]byte, 500)
		b[5] = byte(n)
		if n > 0 {
			unread(t, fmt.Sprint(n, " slots that have nothing"), b)
		}
		// Marks all the way: just with 247 slots none stands behind the last one.
		b = append([]byte{3, 4, 0, 0, 0, byte(n)}, bytes.Repeat([]byte{1, 0}, 247)...)
		if n == 247 {
			reads(t, "247 marks", b, headed(3, 4, of(many("", 247)...)))
		} else {
			unread(t, fmt.Sprint(n, " slots, 247 marks"), b)
		}
	}
}

func TestReadOfLengthsThatLeadAway(t *testing.T) {
	for _, x := range []struct {
		name  string
		marks []int
		rest  string
		want  []string
	}{
		{"one, just to the end", []int{493}, long(492), []string{long(492)}},
		{"one, one byte beyond", []int{494}, long(492), nil},
		{"one, two bytes beyond", []int{495}, long(492), nil},
		{"one, one byte short of the end", []int{492}, long(491), []string{long(491)}},
		{"one, one byte short, and a byte behind", []int{492}, long(492), nil},
		{"one, of the greatest length", []int{math.MaxUint16}, long(492), nil},
		{"one, of a length above 500", []int{502}, long(492), nil},
		{"two, just to the end", []int{246, 246}, long(490), []string{long(490)[:245], long(490)[245:]}},
		{"two, the second one byte beyond", []int{246, 247}, long(490), nil},
		{"two, the first one byte more", []int{247, 246}, long(490), nil},
		{"two, the first alone beyond", []int{492, 1}, long(490), nil},
		{"two, the first just to the end", []int{491, 1}, long(490), []string{long(490), ""}},
		{"two, the second one short", []int{246, 245}, long(489), []string{long(489)[:245], long(489)[245:]}},
		{"two, the second one short, a byte behind", []int{246, 245}, long(490), nil},
		{"three, the first takes all", []int{489, 1, 1}, long(488), []string{long(488), "", ""}},
		{"three, the last leads beyond", []int{489, 1, 2}, long(488), nil},
		{"three, the greatest lengths", []int{65535, 65535, 65535}, long(488), nil},
		{"lengths that come round to 0", []int{32769, 32769, 1}, "", nil},
		{"247, the last of a byte", append(slices.Repeat([]int{1}, 246), 2), "", nil},
		{"246, the last of two bytes", append(slices.Repeat([]int{1}, 245), 3), "ab", list(many("", 245), []string{"ab"})},
		{"246, the last of three bytes", append(slices.Repeat([]int{1}, 245), 4), "ab", nil},
		{"246, the last of one byte", append(slices.Repeat([]int{1}, 245), 2), "a", list(many("", 245), []string{"a"})},
		{"246, the last of one byte, a byte behind", append(slices.Repeat([]int{1}, 245), 2), "ab", nil},
	} {
		b := form(0, x.marks, x.rest)
		if x.want == nil {
			unread(t, x.name, b)
			continue
		}
		reads(t, x.name, b, of(x.want...))
	}
}

func TestReadWhoseLastSlotHasNothing(t *testing.T) {
	for _, marks := range [][]int{{0}, {0, 0}, {1, 0}, {2, 0}, {0, 1, 0}, {2, 0, 0}, {493, 0}, append(slices.Repeat([]int{1}, 246), 0), make([]int, 247)} {
		unread(t, fmt.Sprint("marks ", marks), form(0, marks, ""))
		unread(t, fmt.Sprint("marks ", marks, " with a byte"), form(0, marks, "a")[:500])
	}
	unread(t, "a, then nothing", form(0, []int{2, 0}, "a"))
	reads(t, "nothing, then a", form(0, []int{0, 2}, "a"), of("-", "a"))
}

func TestReadOfABytesBehind(t *testing.T) {
	for _, s := range []api.Slots{of(), of(""), of("a"), of("ab", "-", "c"), headed(5, 6, of("-", "", "xyz")), of(long(400))} {
		b, name := slowBytes(s), tell(s)
		for at := slowRoom(s); at < 500; at++ {
			for _, x := range []byte{1, 128, 255} {
				b[at] = x
				unread(t, fmt.Sprint(name, ", ", x, " at ", at), b)
			}
			b[at] = 0
		}
		reads(t, "noughts again", b, s)
	}
}

func TestReadWithEachByteTurned(t *testing.T) {
	for _, s := range []api.Slots{of(), of("ab", "-", "c"), headed(7, 0x01020304, of("", "xyz", "-", "-", long(300))), of(long(492)), of(many("", 247)...), of(many("a", 164)...)} {
		whole, name := slowBytes(s), tell(s)
		for at := range whole {
			for bit := range 8 {
				b := bytes.Clone(whole)
				b[at] ^= 1 << bit
				what := fmt.Sprint(name, ", bit ", bit, " of ", at)
				if want, may := slowRead(b); may {
					reads(t, what, b, want)
				} else {
					unread(t, what, b)
				}
			}
		}
	}
}

func TestReadTellsAllOfKindAndNext(t *testing.T) {
	for kind := range 256 {
		s := headed(byte(kind), uint32(kind)*0x01010101, of("a"))
		reads(t, fmt.Sprint("Kind ", kind), slowBytes(s), s)
	}
	for bit := range 32 {
		s := headed(0, 1<<bit, of("-", "ab"))
		reads(t, fmt.Sprint("Next 1 << ", bit), slowBytes(s), s)
	}
}

// near draws bytes that are a form, or all but one.
func near(r *rand.Rand) []byte {
	b := slowBytes(drawn(r))
	for range r.Intn(4) {
		switch r.Intn(3) {
		case 0:
			b[5] = byte(r.Intn(256))
		case 1:
			b[6+r.Intn(20)] = byte(r.Intn(4))
		case 2:
			b[r.Intn(500)] = byte(r.Intn(256))
		}
	}
	return b
}

// drawn draws a body that may be.
func drawn(r *rand.Rand) api.Slots {
	s := headed(byte(r.Intn(256)), r.Uint32(), of())
	most, left := []int{1, 4, 60, 492}[r.Intn(4)], 494
	for left >= 2 && r.Intn(40) > 0 {
		left -= 2
		if r.Intn(3) == 0 {
			s.Full, s.Data = append(s.Full, false), append(s.Data, nil)
			continue
		}
		data := make([]byte, r.Intn(min(most, left)+1))
		r.Read(data)
		left -= len(data)
		s.Full, s.Data = append(s.Full, true), append(s.Data, data)
	}
	for n := len(s.Full); n > 0 && !s.Full[n-1]; n-- {
		s.Full, s.Data = s.Full[:n-1], s.Data[:n-1]
	}
	return s
}

func TestReadIsTheWordsWay(t *testing.T) {
	r := rand.New(rand.NewSource(81))
	may := 0
	for i := range 20000 {
		b := near(r)
		want, ok := slowRead(b)
		if !ok {
			unread(t, fmt.Sprint("draw ", i), b)
			continue
		}
		may++
		reads(t, fmt.Sprint("draw ", i), b, want)
	}
	if may < 2000 || may > 18000 {
		t.Errorf("of 20000 bytes %d were forms: the draws are no good", may)
	}
}

// bent is a body, or one with something about it that may not be.
func bent(r *rand.Rand) api.Slots {
	s := clone(drawn(r))
	n := len(s.Full)
	if n == 0 {
		return s
	}
	switch at := r.Intn(n); r.Intn(7) {
	case 0:
		s.Full[at] = !s.Full[at]
	case 1:
		s.Full = append(s.Full, true)
	case 2:
		s.Data = append(s.Data, nil)
	case 3:
		s.Data[at] = append(s.Data[at], 0)
	case 4:
		s.Data[at] = append(s.Data[at], make([]byte, max(0, 499+r.Intn(3)-slowRoom(s)))...)
	case 5:
		s.Full, s.Data = append(s.Full, true), append(s.Data, make([]byte, max(0, 497+r.Intn(3)-slowRoom(s))))
	}
	return s
}

func TestMayIsTheWordsWay(t *testing.T) {
	r := rand.New(rand.NewSource(82))
	may := 0
	for range 20000 {
		s := bent(r)
		want := slowMay(s)
		if got := slots.May(s); got != want {
			t.Fatalf("May of %s: %t", tell(s), got)
		}
		room := 0
		if want {
			may++
			room = 500 - slowRoom(s)
		}
		if got := slots.Room(s); got != room {
			t.Fatalf("Room of %s: %d, not %d", tell(s), got, room)
		}
		b, err := slots.Bytes(s)
		if want && (err != api.OK || !bytes.Equal(b, slowBytes(s))) {
			t.Fatalf("Bytes of %s: error %d, %x", tell(s), err, b)
		}
		if !want && (err != api.ErrArg || len(b) > 0) {
			t.Fatalf("Bytes of %s: error %d, %x", tell(s), err, b)
		}
	}
	if may < 2000 || may > 18000 {
		t.Errorf("of 20000 bodies %d may be: the draws are no good", may)
	}
}

func TestRoom(t *testing.T) {
	for _, x := range []struct {
		name string
		s    api.Slots
		want int
	}{
		{"none", of(), 494},
		{"one of no bytes", of(""), 492},
		{"one of a byte", of("a"), 491},
		{"one of 491", of(long(491)), 1},
		{"one of 492", of(long(492)), 0},
		{"one ahead that has nothing", of("-", "ab"), 488},
		{"three", headed(255, math.MaxUint32, of("ab", "-", "c")), 485},
		{"246 of no bytes", of(many("", 246)...), 2},
		{"247 of no bytes", of(many("", 247)...), 0},
		{"164 of 1", of(many("a", 164)...), 2},
		{"just full by bytes", of(long(245), long(245)), 0},
		{"all but one byte", of(long(245), long(244)), 1},
		{"one of 493", of(long(493)), 0},
		{"248 slots", of(many("", 248)...), 0},
		{"the last one nothing", of("a", "-"), 0},
	} {
		if n := slots.Room(x.s); n != x.want {
			t.Errorf("%s: Room %d, not %d", x.name, n, x.want)
		}
	}
}

// P8.2

// strange is slots that no body has.
func strange(n int) []int {
	return []int{-1, -2, n, n + 1, 247, 248, 255, 256, 1 << 16, 1<<32 - 1, 1 << 32, math.MaxInt, math.MinInt, math.MinInt + 1, math.MaxInt32, math.MinInt32}
}

func TestWhatMayNotBeIsToldAheadOfAll(t *testing.T) {
	for _, x := range mayNotBe() {
		for _, b := range [][]byte{nil, {}, {1}, []byte(long(492)), []byte(long(493)), []byte(long(1000))} {
			s, at, err := slots.Insert(x.s, b)
			refused(t, x.name+": Insert", s, err, api.ErrArg)
			if at != 0 {
				t.Errorf("%s: Insert: ErrArg, and the slot %d", x.name, at)
			}
			for _, at := range append(strange(len(x.s.Full)), 0, 1, 2, len(x.s.Full)-1) {
				s, err = slots.Put(x.s, at, b)
				refused(t, fmt.Sprint(x.name, ": Put at ", at), s, err, api.ErrArg)
			}
		}
		for _, at := range append(strange(len(x.s.Full)), 0, 1, 2, len(x.s.Full)-1) {
			s, err := slots.Delete(x.s, at)
			refused(t, fmt.Sprint(x.name, ": Delete at ", at), s, err, api.ErrArg)
			if got, err := slots.Get(x.s, at); err != api.ErrArg || len(got) > 0 {
				t.Errorf("%s: Get at %d: error %d and %d bytes, not ErrArg", x.name, at, err, len(got))
			}
		}
	}
}

// noSlot tells it, if Put, Delete and Get do not all tell ErrNone at a slot, and nothing beside it.
func noSlot(t *testing.T, what string, s api.Slots, at int) {
	t.Helper()
	what = fmt.Sprint(what, ", at ", at)
	for _, n := range []int{0, 1, 492, 493, 1000} {
		u, err := slots.Put(s, at, []byte(long(n)))
		refused(t, fmt.Sprint(what, ": Put of ", n), u, err, api.ErrNone)
	}
	u, err := slots.Delete(s, at)
	refused(t, what+": Delete", u, err, api.ErrNone)
	if b, err := slots.Get(s, at); err != api.ErrNone || len(b) > 0 {
		t.Errorf("%s: Get: error %d, %x, not ErrNone and nothing", what, err, b)
	}
}

func TestSlotsThatAreNotThere(t *testing.T) {
	for _, x := range mayBe() {
		n := len(x.s.Full)
		for _, at := range strange(n) {
			if at >= 0 && at < n {
				continue
			}
			noSlot(t, x.name, x.s, at)
		}
		for at, full := range x.s.Full {
			if !full {
				noSlot(t, x.name, x.s, at)
			}
		}
	}
}

func TestGetTellsEachSlot(t *testing.T) {
	for _, x := range mayBe() {
		for at, full := range x.s.Full {
			if !full {
				continue
			}
			if b, err := slots.Get(x.s, at); err != api.OK || !bytes.Equal(b, x.s.Data[at]) {
				t.Errorf("%s: Get at %d: error %d, %x, not %x", x.name, at, err, b, x.s.Data[at])
			}
		}
	}
}

func TestInsertIntoTheFirstThatHasNothing(t *testing.T) {
	for _, x := range []struct {
		name string
		s    api.Slots
		at   int
		want api.Slots
	}{
		{"none", of(), 0, of("new")},
		{"none that has nothing", of("a", "", "c"), 3, of("a", "", "c", "new")},
		{"one of no bytes is no gap", of(""), 1, of("", "new")},
		{"one in the middle", of("ab", "-", "c"), 1, of("ab", "new", "c")},
		{"one ahead", of("-", "ab"), 0, of("new", "ab")},
		{"the first of several", of("-", "a", "-", "-", "b"), 0, of("new", "a", "-", "-", "b")},
		{"the first of several in the middle", of("x", "a", "-", "-", "b", "-", "c"), 2, of("x", "a", "new", "-", "b", "-", "c")},
		{"behind one of no bytes", of("", "-", "b"), 1, of("", "new", "b")},
		{"Kind and Next stay", headed(255, math.MaxUint32, of("a", "-", "b")), 1, headed(255, math.MaxUint32, of("a", "new", "b"))},
		{"Kind and Next of none stay", headed(1, 2, of()), 0, headed(1, 2, of("new"))},
		{"the last gap of 246", of(list(many("", 100), []string{"-"}, many("", 100))...), 100, of(list(many("", 100), []string{"new"}, many("", 100))...)},
	} {
		s, at, err := slots.Insert(x.s, []byte("new"))
		gives(t, x.name+": Insert", s, err, x.want)
		if at != x.at {
			t.Errorf("%s: Insert: slot %d, not %d", x.name, at, x.at)
		}
	}
}

func TestInsertBehindAllWhereJustThatFits(t *testing.T) {
	for _, x := range []struct {
		name string
		s    api.Slots
		fits int // how many bytes fit; below 0: none, not even 0
	}{
		{"none", of(), 492},
		{"one of no bytes", of(""), 490},
		{"one of 100", of(long(100)), 390},
		{"one of 489", of(long(489)), 1},
		{"one of 490", of(long(490)), 0},
		{"one of 491: one byte is left", of(long(491)), -1},
		{"one of 492: full", of(long(492)), -1},
		{"245 of no bytes", of(many("", 245)...), 2},
		{"245, one of a byte", of(list(many("", 244), []string{"a"})...), 1},
		{"246 of no bytes", of(many("", 246)...), 0},
		{"246, one of a byte", of(list(many("", 245), []string{"a"})...), -1},
		{"247 of no bytes", of(many("", 247)...), -1},
		{"164 of 1", of(many("a", 164)...), 0},
	} {
		if x.fits >= 0 {
			b := long(x.fits)
			s := inserts(t, x.s, b, len(x.s.Full))
			want := clone(x.s)
			want.Full, want.Data = append(want.Full, true), append(want.Data, []byte(b))
			gives(t, x.name, s, api.OK, want)
		}
		for n := x.fits + 1; n < x.fits+4; n++ {
			unfit(t, fmt.Sprint(x.name, ", ", n), x.s, n)
		}
		unfit(t, x.name+", 1000", x.s, 1000)
		unfit(t, x.name+", 2^16", x.s, 1<<16)
	}
}

func TestInsertIntoAGapWhereJustThatFits(t *testing.T) {
	for _, x := range []struct {
		name string
		s    api.Slots
		at   int
		fits int
	}{
		{"two", of("-", ""), 0, 490},
		{"two, one of 100", of("-", long(100)), 0, 390},
		{"two, one of 488", of("-", long(488)), 0, 2},
		{"two, one of 489: one byte is left, no slot behind would fit", of("-", long(489)), 0, 1},
		{"two, one of 490: full", of("-", long(490)), 0, 0},
		{"247, a gap ahead: no slot behind would fit", of(list([]string{"-"}, many("", 246))...), 0, 0},
		{"247, a gap near the end", of(list(many("", 245), []string{"-", ""})...), 245, 0},
		{"247, all gaps but the last", of(list(many("-", 246), []string{""})...), 0, 0},
		{"246, a gap", of(list(many("", 7), []string{"-"}, many("", 238))...), 7, 2},
		{"246, a gap, one of a byte", of(list(many("", 7), []string{"-", "a"}, many("", 237))...), 7, 1},
	} {
		b := long(x.fits)
		s := inserts(t, x.s, b, x.at)
		want := clone(x.s)
		want.Full[x.at], want.Data[x.at] = true, []byte(b)
		gives(t, x.name, s, api.OK, want)
		unfit(t, x.name, x.s, x.fits+1)
		unfit(t, x.name, x.s, x.fits+2)
		unfit(t, x.name, x.s, 1000)
	}
}

func TestInsertOfNoBytes(t *testing.T) {
	for _, b := range [][]byte{nil, {}} {
		s, at, err := slots.Insert(of("a", "-", "c"), b)
		gives(t, "into a gap", s, err, of("a", "", "c"))
		if at != 1 || !slots.May(s) {
			t.Errorf("Insert of no bytes into a gap: slot %d, may be %t", at, slots.May(s))
		}
		s, at, err = slots.Insert(of("a"), b)
		gives(t, "behind all", s, err, of("a", ""))
		if at != 1 {
			t.Errorf("Insert of no bytes behind all: slot %d", at)
		}
	}
}

func TestInsertTillItIsFull(t *testing.T) {
	s := of()
	for i := range 247 {
		s = inserts(t, s, "", i)
	}
	if slots.Room(s) != 0 {
		t.Errorf("247 slots: Room %d", slots.Room(s))
	}
	unfit(t, "247 slots", s, 0)
	s, err := slots.Delete(s, 100)
	if err != api.OK || slots.Room(s) != 0 {
		t.Fatalf("Delete in the middle: error %d, Room %d", err, slots.Room(s))
	}
	unfit(t, "a gap of 247", s, 1)
	gives(t, "a gap filled", inserts(t, s, "", 100), api.OK, of(many("", 247)...))
}

func TestPut(t *testing.T) {
	for _, x := range []struct {
		name string
		s    api.Slots
		at   int
		b    string
		want api.Slots
	}{
		{"shorter", of("abc", "d"), 0, "x", of("x", "d")},
		{"of no bytes", of("abc", "d"), 0, "", of("", "d")},
		{"just as many", of("abc", "d"), 0, "xyz", of("xyz", "d")},
		{"the same", of("abc", "d"), 0, "abc", of("abc", "d")},
		{"more", of("abc", "d"), 1, long(90), of("abc", long(90))},
		{"where there were no bytes", of("", "", "e"), 1, "xy", of("", "xy", "e")},
		{"the last one, no bytes: it has something", of("a", "b"), 1, "", of("a", "")},
		{"the only one", of("a"), 0, long(492), of(long(492))},
		{"gaps stay", headed(3, 4, of("-", "b", "-", "d")), 1, "new", headed(3, 4, of("-", "new", "-", "d"))},
		{"the greatest Kind and Next", headed(255, math.MaxUint32, of("a")), 0, "b", headed(255, math.MaxUint32, of("b"))},
		{"the last of 247", of(many("", 247)...), 246, "", of(many("", 247)...)},
	} {
		s, err := slots.Put(x.s, x.at, []byte(x.b))
		gives(t, x.name+": Put", s, err, x.want)
	}
	for _, b := range [][]byte{nil, {}} {
		s, err := slots.Put(of("a", "b"), 0, b)
		gives(t, "no bytes: Put", s, err, of("", "b"))
		if b, err := slots.Get(s, 0); err != api.OK || len(b) > 0 {
			t.Errorf("Get of no bytes: error %d, %x", err, b)
		}
	}
}

func TestPutWhereTheyFitJust(t *testing.T) {
	for _, x := range []struct {
		name string
		s    api.Slots
		at   int
		fits int
	}{
		{"one of no bytes", of(""), 0, 492},
		{"one of 492", of(long(492)), 0, 492},
		{"one of 100", of(long(100)), 0, 492},
		{"the first of two", of("ab", "cde"), 0, 487},
		{"the second of two", of("ab", "cde"), 1, 488},
		{"of two that are full, the first", of(long(245), long(245)), 0, 245},
		{"of two that are full, the second, of none", of(long(490), ""), 1, 0},
		{"with gaps", of("-", "-", "ab", "-", "c"), 2, 483},
		{"with gaps, the last", of("-", "-", "ab", "-", "c"), 4, 482},
		{"of 247", of(many("", 247)...), 9, 0},
		{"of 246", of(many("", 246)...), 9, 2},
		{"of 246, another has a byte", of(list([]string{"a"}, many("", 245))...), 9, 1},
		{"of 246, itself has a byte", of(list([]string{"a"}, many("", 245))...), 0, 2},
	} {
		b := []byte(long(x.fits))
		want := clone(x.s)
		want.Data[x.at] = b
		s, err := slots.Put(x.s, x.at, b)
		gives(t, x.name+": Put", s, err, want)
		if slots.Room(s) != 0 {
			t.Errorf("%s: Room %d, not 0", x.name, slots.Room(s))
		}
		for _, n := range []int{x.fits + 1, x.fits + 2, 494, 501, 1 << 16, 1<<16 + x.fits} {
			s, err := slots.Put(x.s, x.at, []byte(long(n)))
			refused(t, fmt.Sprint(x.name, ": Put of ", n), s, err, api.ErrFull)
		}
	}
}

func TestDelete(t *testing.T) {
	for _, x := range []struct {
		name string
		s    api.Slots
		at   int
		want api.Slots
	}{
		{"the only one", of("a"), 0, of()},
		{"the only one of no bytes", of(""), 0, of()},
		{"the only one, Kind and Next stay", headed(255, math.MaxUint32, of("a")), 0, headed(255, math.MaxUint32, of())},
		{"the first", of("a", "b", "c"), 0, of("-", "b", "c")},
		{"one in the middle", of("a", "b", "c"), 1, of("a", "-", "c")},
		{"one in the middle, gaps beside it", of("a", "-", "b", "-", "c"), 2, of("a", "-", "-", "-", "c")},
		{"the last", of("a", "b", "c"), 2, of("a", "b")},
		{"the last, one gap ahead", of("a", "-", "c"), 2, of("a")},
		{"the last, several gaps ahead", of("a", "-", "b", "-", "-", "-", "c"), 6, of("a", "-", "b")},
		{"the last, just gaps ahead", of("-", "-", "-", "c"), 3, of()},
		{"the last, one of no bytes ahead", of("a", "-", "", "-", "c"), 4, of("a", "-", "")},
		{"the last of 247", of(many("", 247)...), 246, of(many("", 246)...)},
		{"the last of 247, gaps ahead of it", of(list(many("-", 246), []string{""})...), 246, of()},
		{"one that takes all", headed(1, 2, of("", long(490))), 1, headed(1, 2, of(""))},
	} {
		s, err := slots.Delete(x.s, x.at)
		gives(t, x.name+": Delete", s, err, x.want)
		if !slots.May(s) {
			t.Errorf("%s: behind Delete: it may not be", x.name)
		}
	}
}

func TestErrorsInTheirOrder(t *testing.T) {
	// ErrArg ahead of ErrNone, ErrNone ahead of ErrFull.
	over, full := of(long(493)), of("-", long(490))
	s, err := slots.Put(over, -1, []byte(long(600)))
	refused(t, "what may not be, no slot, too long", s, err, api.ErrArg)
	s, err = slots.Put(over, 0, []byte("a"))
	refused(t, "what may not be, though it would with these bytes", s, err, api.ErrArg)
	s, err = slots.Delete(over, 0)
	refused(t, "what may not be, though it would without them", s, err, api.ErrArg)
	s, err = slots.Put(full, 0, []byte(long(600)))
	refused(t, "a gap, too long", s, err, api.ErrNone)
	s, err = slots.Put(full, 2, []byte(long(600)))
	refused(t, "behind the last, too long", s, err, api.ErrNone)
	s, err = slots.Put(full, 1, []byte(long(600)))
	refused(t, "a slot, too long", s, err, api.ErrFull)
	if _, err := slots.Get(over, 7); err != api.ErrArg {
		t.Errorf("Get of what may not be, no slot: error %d", err)
	}
}

func TestExamples(t *testing.T) {
	s := inserts(t, of(), "ab", 0)
	s, at, err := slots.Insert(s, nil)
	if err != api.OK || at != 1 {
		t.Fatalf("Insert of nothing: error %d, slot %d", err, at)
	}
	s = inserts(t, s, "c", 2)
	gives(t, "Insert of ab, of nothing, of c", s, api.OK, of("ab", "", "c"))
	s, err = slots.Delete(s, 0)
	gives(t, "Delete 0", s, err, of("-", "", "c"))
	s = inserts(t, s, "d", 0)
	s, err = slots.Delete(s, 2)
	gives(t, "Delete 2", s, err, of("d", ""))
	s, err = slots.Delete(s, 1)
	gives(t, "Delete 1", s, err, of("d"))
	if n := slots.Room(of()); n != 494 {
		t.Errorf("Room of none: %d", n)
	}
	if n := slots.Room(of(long(492))); n != 0 {
		t.Errorf("Room with one slot of 492 bytes: %d", n)
	}
	unfit(t, "none", of(), 493)
	inserts(t, of(), long(492), 0)
}

// P8.3

func TestReadOfBytesIsTheBody(t *testing.T) {
	through := func(what string, s api.Slots) {
		b, err := slots.Bytes(s)
		if err != api.OK {
			t.Fatalf("%s: Bytes: error %d", what, err)
		}
		reads(t, what, b, s)
	}
	for _, x := range mayBe() {
		through(x.name, x.s)
	}
	r := rand.New(rand.NewSource(83))
	for i := range 3000 {
		through(fmt.Sprint("draw ", i), drawn(r))
	}
}

func TestBytesOfReadIsTheForm(t *testing.T) {
	r := rand.New(rand.NewSource(84))
	for range 5000 {
		b := near(r)
		s, err := slots.Read(b)
		if err != api.OK {
			continue
		}
		if again, err := slots.Bytes(s); err != api.OK || !bytes.Equal(again, b) {
			t.Fatalf("Bytes of Read of %x: error %d, %x", b, err, again)
		}
	}
}

func TestEverySlotOfEachLengthIsReadAgain(t *testing.T) {
	for n := range 493 {
		s := headed(byte(n), uint32(n)<<20, of(long(n)))
		b, err := slots.Bytes(s)
		if err != api.OK {
			t.Fatalf("%d bytes: error %d", n, err)
		}
		reads(t, fmt.Sprint(n, " bytes"), b, s)
	}
	for n := range 248 {
		s := of(many("", n)...)
		b, err := slots.Bytes(s)
		if err != api.OK {
			t.Fatalf("%d slots: error %d", n, err)
		}
		reads(t, fmt.Sprint(n, " slots"), b, s)
	}
}

// others tells it, if a slot other than at is not alike in two bodies, or Kind or Next are not.
func others(t *testing.T, what string, s, u api.Slots, at int) {
	t.Helper()
	if s.Kind != u.Kind || s.Next != u.Next {
		t.Errorf("%s: Kind %d, Next %d became %d, %d", what, s.Kind, s.Next, u.Kind, u.Next)
	}
	for i := range max(len(s.Full), len(u.Full)) {
		if i == at {
			continue
		}
		b, err := slots.Get(s, i)
		c, code := slots.Get(u, i)
		if err != code || !bytes.Equal(b, c) {
			t.Errorf("%s: slot %d: %d, %x became %d, %x", what, i, err, b, code, c)
		}
	}
}

func TestOneCallTouchesNoOtherSlot(t *testing.T) {
	r := rand.New(rand.NewSource(85))
	for range 3000 {
		s := drawn(r)
		b := []byte(long(r.Intn(40)))
		if u, at, err := slots.Insert(s, b); err == api.OK {
			others(t, "Insert", s, u, at)
			if got, err := slots.Get(u, at); err != api.OK || !bytes.Equal(got, b) {
				t.Errorf("Get of what was inserted: error %d, %x", err, got)
			}
		}
		at := r.Intn(len(s.Full) + 1)
		if u, err := slots.Put(s, at, b); err == api.OK {
			others(t, "Put", s, u, at)
			if got, err := slots.Get(u, at); err != api.OK || !bytes.Equal(got, b) {
				t.Errorf("Get of what was put: error %d, %x", err, got)
			}
		}
		if u, err := slots.Delete(s, at); err == api.OK {
			others(t, "Delete", s, u, at)
			noSlot(t, "what was deleted", u, at)
		}
	}
}

func TestInsertedAndDeletedLeavesTheRoom(t *testing.T) {
	r := rand.New(rand.NewSource(86))
	bodies := mayBe()
	for range 3000 {
		bodies = append(bodies, named{"drawn", drawn(r)})
	}
	for _, x := range bodies {
		for _, n := range []int{0, 1, r.Intn(493)} {
			s, at, err := slots.Insert(x.s, []byte(long(n)))
			if err == api.ErrFull {
				continue
			}
			took := slots.Room(x.s) - slots.Room(s)
			if behind := at == len(x.s.Full); took != n && !behind || took != n+2 && behind {
				t.Errorf("%s: Insert of %d at %d took %d bytes", x.name, n, at, took)
			}
			s, err = slots.Delete(s, at)
			gives(t, x.name+": inserted and deleted", s, err, x.s)
			if slots.Room(s) != slots.Room(x.s) {
				t.Errorf("%s: Room %d, not %d", x.name, slots.Room(s), slots.Room(x.s))
			}
		}
	}
}

// A slow model of a body: texts by slots, and which slots there are by the greatest of them.
type model struct {
	kind byte
	next uint32
	at   map[int]string
}

func (m *model) count() int {
	n := 0
	for i := range m.at {
		n = max(n, i+1)
	}
	return n
}

func (m *model) room() int {
	n := 500 - 6 - 2*m.count()
	for _, x := range m.at {
		n -= len(x)
	}
	return n
}

func (m *model) slots() api.Slots {
	texts := many("-", m.count())
	s := of(texts...)
	for i, x := range m.at {
		s.Full[i], s.Data[i] = true, []byte(x)
	}
	return headed(m.kind, m.next, s)
}

// put puts a text, if it fits; else all is as it was.
func (m *model) put(at int, x string) bool {
	old, there := m.at[at]
	m.at[at] = x
	if m.room() >= 0 {
		return true
	}
	delete(m.at, at)
	if there {
		m.at[at] = old
	}
	return false
}

func (m *model) insert(x string) (int, bool) {
	at := 0
	for _, there := m.at[at]; there; _, there = m.at[at] {
		at++
	}
	return at, m.put(at, x)
}

func TestCallsInARowAgainstASlowModel(t *testing.T) {
	r := rand.New(rand.NewSource(87))
	told := map[string]int{}
	for range 300 {
		m := &model{byte(r.Intn(256)), r.Uint32(), map[int]string{}}
		s := headed(m.kind, m.next, of())
		most := []int{1, 3, 12, 60, 250}[r.Intn(5)]
		for range 300 {
			s = step(t, r, m, s, long(r.Intn(most+1)), told)
			if !same(s, m.slots()) || slots.Room(s) != m.room() {
				t.Fatalf("%s, Room %d, not %s, %d", tell(s), slots.Room(s), tell(m.slots()), m.room())
			}
		}
	}
	for _, what := range []string{"insert", "insert full", "put", "put full", "put none", "delete", "delete none", "get", "get none", "form"} {
		if told[what] < 100 {
			t.Errorf("%s: told only %d times", what, told[what])
		}
	}
}

// step does one call that is drawn, of a body and its model, and tells the body behind it.
func step(t *testing.T, r *rand.Rand, m *model, s api.Slots, x string, told map[string]int) api.Slots {
	t.Helper()
	at := r.Intn(m.count()+2) - 1
	_, there := m.at[at]
	want := api.OK
	if !there {
		want = api.ErrNone
	}
	switch r.Intn(8) {
	case 0, 1, 2:
		u, at, err := slots.Insert(s, []byte(x))
		slot, fits := m.insert(x)
		if !fits {
			told["insert full"]++
			refused(t, "Insert", u, err, api.ErrFull)
			return s
		}
		told["insert"]++
		if at != slot || err != api.OK {
			t.Fatalf("Insert: error %d, slot %d, not %d", err, at, slot)
		}
		return u
	case 3, 4:
		if there && !m.put(at, x) {
			want = api.ErrFull
		}
		u, err := slots.Put(s, at, []byte(x))
		if want == api.OK {
			told["put"]++
			gives(t, "Put", u, err, m.slots())
			return u
		}
		told[map[api.Errno]string{api.ErrNone: "put none", api.ErrFull: "put full"}[want]]++
		refused(t, "Put", u, err, want)
	case 5:
		u, err := slots.Delete(s, at)
		if there {
			told["delete"]++
			delete(m.at, at)
			gives(t, "Delete", u, err, m.slots())
			return u
		}
		told["delete none"]++
		refused(t, "Delete", u, err, want)
	case 6:
		told[map[bool]string{true: "get", false: "get none"}[there]]++
		if b, err := slots.Get(s, at); err != want || string(b) != m.at[at] {
			t.Fatalf("Get at %d: error %d, %x, not %d, %x", at, err, b, want, m.at[at])
		}
	case 7:
		told["form"]++
		b, err := slots.Bytes(s)
		if err != api.OK {
			t.Fatalf("Bytes: error %d", err)
		}
		u, err := slots.Read(b)
		gives(t, "Read of Bytes", u, err, m.slots())
		return u
	}
	return s
}

// P1

// roomy is a body like s, with lists that have spare room, all of it set.
func roomy(s api.Slots) api.Slots {
	full := slices.Repeat([]bool{true}, len(s.Full)+5)
	copy(full, s.Full)
	data := make([][]byte, len(s.Data)+5)
	for i := range data {
		data[i] = bytes.Repeat([]byte{0xAA}, 20)
		if i < len(s.Data) {
			d := append(bytes.Clone(s.Data[i]), data[i]...)
			data[i] = d[:len(s.Data[i])]
		}
	}
	s.Full, s.Data = full[:len(s.Full)], data[:len(s.Data)]
	return s
}

// wide is a body with all of its spare room.
func wide(s api.Slots) api.Slots {
	s.Full = s.Full[:cap(s.Full)]
	data := append([][]byte{}, s.Data[:cap(s.Data)]...)
	for i, d := range data {
		data[i] = d[:cap(d)]
	}
	s.Data = data
	return s
}

// spoil writes over all of a body, its spare room included.
func spoil(s api.Slots) {
	for _, d := range wide(s).Data {
		spoilBytes(d)
	}
	full, data := s.Full[:cap(s.Full)], s.Data[:cap(s.Data)]
	for i := range full {
		full[i] = !full[i]
	}
	for i := range data {
		data[i] = []byte{0xEE}
	}
}

// spoilBytes writes over all of b, its spare room included.
func spoilBytes(b []byte) {
	b = b[:cap(b)]
	for i := range b {
		b[i] ^= 0x55
	}
}

// answer is what a call tells: a body, bytes, or neither.
type answer struct {
	s api.Slots
	b []byte
}

func (a answer) clone() answer { return answer{clone(a.s), bytes.Clone(a.b)} }

func (a answer) same(b answer) bool { return same(a.s, b.s) && bytes.Equal(a.b, b.b) }

func (a answer) spoil() {
	spoil(a.s)
	spoilBytes(a.b)
}

// calls is all calls of a body and bytes, by their names.
func calls() map[string]func(api.Slots, []byte) answer {
	return map[string]func(api.Slots, []byte) answer{
		"May":       func(s api.Slots, b []byte) answer { slots.May(s); return answer{} },
		"Room":      func(s api.Slots, b []byte) answer { slots.Room(s); return answer{} },
		"Bytes":     func(s api.Slots, b []byte) answer { f, _ := slots.Bytes(s); return answer{b: f} },
		"Read":      func(s api.Slots, b []byte) answer { u, _ := slots.Read(b); return answer{s: u} },
		"Insert":    func(s api.Slots, b []byte) answer { u, _, _ := slots.Insert(s, b); return answer{s: u} },
		"Put 0":     func(s api.Slots, b []byte) answer { u, _ := slots.Put(s, 0, b); return answer{s: u} },
		"Put 2":     func(s api.Slots, b []byte) answer { u, _ := slots.Put(s, 2, b); return answer{s: u} },
		"Put none":  func(s api.Slots, b []byte) answer { u, _ := slots.Put(s, 99, b); return answer{s: u} },
		"Delete 0":  func(s api.Slots, b []byte) answer { u, _ := slots.Delete(s, 0); return answer{s: u} },
		"Delete 2":  func(s api.Slots, b []byte) answer { u, _ := slots.Delete(s, 2); return answer{s: u} },
		"Get 0":     func(s api.Slots, b []byte) answer { g, _ := slots.Get(s, 0); return answer{b: g} },
		"Get 2":     func(s api.Slots, b []byte) answer { g, _ := slots.Get(s, 2); return answer{b: g} },
		"Get none":  func(s api.Slots, b []byte) answer { g, _ := slots.Get(s, -1); return answer{b: g} },
		"Delete -1": func(s api.Slots, b []byte) answer { u, _ := slots.Delete(s, -1); return answer{s: u} },
	}
}

// bodies is bodies that are handed to all calls, some of which may not be.
func bodies() []named {
	return []named{
		{"none", of()},
		{"three", headed(4, 5, of("ab", "", "cde"))},
		{"a gap", headed(4, 5, of("ab", "-", "cde"))},
		{"gaps", of("", "-", "c", "-", "-", "f")},
		{"a full one", of(long(200), "-", long(288))},
		{"one that may not be", of("a", "b", "-")},
		{"one that is too long", of(long(300), "b", long(300))},
		{"247", of(many("", 247)...)},
	}
}

// handed is bytes that are handed to all calls.
func handed() [][]byte {
	return [][]byte{nil, {}, []byte("xy"), []byte(long(100)), []byte(long(493)), slowBytes(headed(9, 8, of("a", "-", "xyz"))), slowBytes(of(long(492)))}
}

// check calls f for each call, each body, each bytes.
func check(t *testing.T, f func(what string, call func(api.Slots, []byte) answer, s api.Slots, b []byte)) {
	t.Helper()
	for name, call := range calls() {
		for _, x := range bodies() {
			for _, b := range handed() {
				f(fmt.Sprintf("%s of %s and %d bytes", name, x.name, len(b)), call, x.s, b)
			}
		}
	}
}

func TestWhatIsHandedInStays(t *testing.T) {
	check(t, func(what string, call func(api.Slots, []byte) answer, s api.Slots, b []byte) {
		u := roomy(s)
		was := clone(wide(u))
		spare := append(bytes.Clone(b), 0xAA, 0xAB, 0xAC)
		all := bytes.Clone(spare)
		call(u, spare[:len(b)])
		if !same(wide(u), was) || !bytes.Equal(spare, all) {
			t.Errorf("%s: what was handed in has changed", what)
		}
	})
}

func TestWhatIsHandedInMayBeWrittenOver(t *testing.T) {
	check(t, func(what string, call func(api.Slots, []byte) answer, s api.Slots, b []byte) {
		u, spare := roomy(s), append(bytes.Clone(b), 0xAA, 0xAB, 0xAC)
		a := call(u, spare[:len(b)])
		was := a.clone()
		spoil(u)
		spoilBytes(spare)
		if !a.same(was) {
			t.Errorf("%s: the answer has changed with what was handed in", what)
		}
	})
}

func TestWhatIsAnsweredIsNewMemory(t *testing.T) {
	check(t, func(what string, call func(api.Slots, []byte) answer, s api.Slots, b []byte) {
		u, spare := roomy(s), append(bytes.Clone(b), 0xAA, 0xAB, 0xAC)
		was, all := clone(wide(u)), bytes.Clone(spare)
		a, other := call(u, spare[:len(b)]), call(u, spare[:len(b)])
		want := other.clone()
		a.spoil()
		if !same(wide(u), was) || !bytes.Equal(spare, all) {
			t.Errorf("%s: what was handed in has changed with the answer", what)
		}
		if !other.same(want) {
			t.Errorf("%s: one answer has changed with another", what)
		}
		if again := call(u, spare[:len(b)]); !again.same(want) {
			t.Errorf("%s: called again it tells another answer", what)
		}
	})
}

func TestNoTwoSlotsOfAnAnswerShareMemory(t *testing.T) {
	check(t, func(what string, call func(api.Slots, []byte) answer, s api.Slots, b []byte) {
		u := call(s, b).s
		for at := range u.Data {
			was := clone(u)
			spoilBytes(u.Data[at])
			for i := range u.Data {
				if i != at && !bytes.Equal(u.Data[i], was.Data[i]) {
					t.Errorf("%s: slot %d has changed with slot %d", what, i, at)
				}
			}
		}
	})
}

func TestASlotsBytesMayBeItsOwn(t *testing.T) {
	// The bytes that are put are just those that stand there, or stand in another slot.
	s := of("abcd", "-", "ef")
	u, err := slots.Put(s, 2, s.Data[0])
	gives(t, "Put of another slot's", u, err, of("abcd", "-", "abcd"))
	u.Data[0][0] = 'X'
	gives(t, "its bytes are its own", u, api.OK, of("Xbcd", "-", "abcd"))
	gives(t, "and those handed in", s, api.OK, of("abcd", "-", "ef"))
	u, at, err := slots.Insert(s, s.Data[0][1:3])
	gives(t, "Insert of a piece of a slot", u, err, of("abcd", "bc", "ef"))
	if at != 1 {
		t.Errorf("slot %d", at)
	}
	u.Data[1][0] = 'X'
	gives(t, "its bytes are its own", u, api.OK, of("abcd", "Xc", "ef"))
	gives(t, "and those handed in", s, api.OK, of("abcd", "-", "ef"))
	// Slots that share bytes as they are handed in share none in the answer.
	one := []byte("ab")
	s = api.Slots{Full: []bool{true, true, true}, Data: [][]byte{one, one, one}}
	u, err = slots.Delete(s, 0)
	gives(t, "Delete of shared bytes", u, err, of("-", "ab", "ab"))
	u.Data[1][0] = 'X'
	gives(t, "each its own", u, api.OK, of("-", "Xb", "ab"))
	gives(t, "and those handed in", s, api.OK, of("ab", "ab", "ab"))
}

func TestABodyAppendedToTouchesNoOther(t *testing.T) {
	s := of("a", "b", "c", "d")
	u, err := slots.Delete(s, 3)
	gives(t, "Delete", u, err, of("a", "b", "c"))
	first := append(u.Data, []byte("x"))
	w := inserts(t, u, "y", 3)
	u.Full = append(u.Full, true)
	u.Data[0] = append(u.Data[0], 'z')
	gives(t, "Insert behind", w, api.OK, of("a", "b", "c", "y"))
	if string(first[3]) != "x" {
		t.Errorf("what was appended is %q", first[3])
	}
	gives(t, "what was handed in", s, api.OK, of("a", "b", "c", "d"))
}

func TestCallsAtTheSameTime(t *testing.T) {
	var wg sync.WaitGroup
	s := headed(1, 2, of("ab", "-", "c"))
	b := []byte("xyz")
	f := slowBytes(s)
	for range 8 {
		wg.Go(func() {
			for range 200 {
				u, _, err := slots.Insert(s, b)
				gives(t, "Insert", u, err, headed(1, 2, of("ab", "xyz", "c")))
				u, err = slots.Put(s, 2, b)
				gives(t, "Put", u, err, headed(1, 2, of("ab", "-", "xyz")))
				u, err = slots.Delete(s, 2)
				gives(t, "Delete", u, err, headed(1, 2, of("ab")))
				reads(t, "a form", f, s)
			}
		})
	}
	wg.Wait()
}

func BenchmarkBytes(b *testing.B) {
	s := of(many("abcdefgh", 40)...)
	for b.Loop() {
		slots.Bytes(s)
	}
}

func BenchmarkRead(b *testing.B) {
	f := slowBytes(of(many("abcdefgh", 40)...))
	for b.Loop() {
		slots.Read(f)
	}
}

func BenchmarkPut(b *testing.B) {
	s, x := of(many("abcdefgh", 40)...), []byte("xyz")
	for b.Loop() {
		slots.Put(s, 20, x)
	}
}
