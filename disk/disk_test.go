package disk_test

import (
	"bytes"
	"fmt"
	"math"
	"math/rand"
	"slices"
	"sync"
	"testing"

	"vicinage/api"
	"vicinage/disk"
)

// sec is a sector's bytes, all of them x.
func sec(x byte) []byte { return bytes.Repeat([]byte{x}, 128) }

// halves is a sector's bytes: x in the first half, y in the last one.
func halves(x, y byte) []byte {
	return slices.Concat(bytes.Repeat([]byte{x}, 64), bytes.Repeat([]byte{y}, 64))
}

// draw draws n bytes.
func draw(r *rand.Rand, n int) []byte {
	b := make([]byte, n)
	r.Read(b)
	return b
}

// made is New where no error may be.
func made(t testing.TB, sectors, most int) *disk.Disk {
	t.Helper()
	d, err := disk.New(sectors, most)
	if err != api.OK || d == nil {
		t.Fatalf("New(%d, %d): error %d", sectors, most, err)
	}
	return d
}

// gives tells it, if a call's error is not what is wanted.
func gives(t *testing.T, what string, err, want api.Errno) {
	t.Helper()
	if err != want {
		t.Errorf("%s: error %d, not %d", what, err, want)
	}
}

// put writes sectors, each of whose bytes are x, where no error may be.
func put(t *testing.T, d *disk.Disk, x byte, at ...int) {
	t.Helper()
	for _, n := range at {
		gives(t, fmt.Sprintf("Write %d of %d", n, x), d.Write(n, sec(x)), api.OK)
	}
}

// reads tells it, if a sector's bytes are not what is wanted.
func reads(t *testing.T, what string, d *disk.Disk, at int, want []byte) {
	t.Helper()
	if b, err := d.Read(at); err != api.OK || !bytes.Equal(b, want) {
		t.Errorf("%s: Read %d: error %d, %x, not %x", what, at, err, b, want)
	}
}

// refuses tells it, if Read does not tell this error and nothing beside it.
func refuses(t *testing.T, what string, d *disk.Disk, at int, want api.Errno) {
	t.Helper()
	if b, err := d.Read(at); err != want || len(b) > 0 {
		t.Errorf("%s: Read %d: error %d, %d bytes, not %d", what, at, err, len(b), want)
	}
}

// counts tells it, if the numbers of a device are not what is wanted.
func counts(t *testing.T, what string, d *disk.Disk, sectors, used int, waits ...int) {
	t.Helper()
	if d.Sectors() != sectors || d.Used() != used || !slices.Equal(d.Waits(), waits) {
		t.Errorf("%s: Sectors %d, Used %d, Waits %v, not %d, %d, %v", what, d.Sectors(), d.Used(), d.Waits(), sectors, used, waits)
	}
}

// goesAt tells it, if the power does not go just at the n-th operation from now
// on; each of them is a Sync.
func goesAt(t *testing.T, what string, d *disk.Disk, n int) {
	t.Helper()
	for i := 1; i < n; i++ {
		gives(t, fmt.Sprintf("%s: the operation %d of %d", what, i, n), d.Sync(), api.OK)
	}
	gives(t, fmt.Sprintf("%s: the operation %d, at which the power goes", what, n), d.Sync(), api.ErrDown)
	refuses(t, what+": behind it", d, 0, api.ErrDown)
}

// staysOn tells it, if the power goes at one of n operations.
func staysOn(t *testing.T, what string, d *disk.Disk, n int) {
	t.Helper()
	for i := range n {
		gives(t, fmt.Sprintf("%s: the operation %d of %d", what, i+1, n), d.Sync(), api.OK)
	}
}

// P6.1

func TestNewEdges(t *testing.T) {
	for _, c := range []struct {
		sectors, most int
		want          api.Errno
	}{
		{1, 0, api.OK},
		{1, 1, api.OK},
		{2, 1, api.OK},
		{4, 0, api.OK},
		{4, 4, api.OK},
		{65535, 65535, api.OK},
		{65536, 0, api.OK},
		{65536, 1, api.OK},
		{65536, 65535, api.OK},
		{65536, 65536, api.OK},
		{0, 0, api.ErrArg},
		{0, 1, api.ErrArg},
		{0, -1, api.ErrArg},
		{-1, 0, api.ErrArg},
		{-1, -1, api.ErrArg},
		{-4, -5, api.ErrArg},
		{1, -1, api.ErrArg},
		{1, 2, api.ErrArg},
		{4, -1, api.ErrArg},
		{4, 5, api.ErrArg},
		{65536, -1, api.ErrArg},
		{65536, 65537, api.ErrArg},
		{65537, 0, api.ErrArg},
		{65537, 1, api.ErrArg},
		{65537, 65536, api.ErrArg},
		{65537, 65537, api.ErrArg},
		{4, math.MinInt, api.ErrArg},
		{4, math.MaxInt, api.ErrArg},
		{math.MinInt, 0, api.ErrArg},
		{math.MinInt, math.MinInt, api.ErrArg},
		{math.MaxInt, 0, api.ErrArg},
		{math.MaxInt, math.MaxInt, api.ErrArg},
		{1 << 32, 1 << 32, api.ErrArg},
		{1<<32 + 4, 4, api.ErrArg},
	} {
		d, err := disk.New(c.sectors, c.most)
		if err != c.want || (d != nil) != (err == api.OK) {
			t.Errorf("New(%d, %d): a device: %v, error %d, not %d", c.sectors, c.most, d != nil, err, c.want)
		}
		if err == api.OK {
			counts(t, fmt.Sprintf("New(%d, %d)", c.sectors, c.most), d, c.sectors, 0)
		}
	}
}

// Nothing was written on it: 128 bytes 0 in each sector, the power on, nothing armed.
func TestNewDevice(t *testing.T) {
	for _, n := range []int{1, 2, 7, 65536} {
		d := made(t, n, n)
		for at := range n {
			reads(t, "a new device", d, at, make([]byte, 128))
		}
		counts(t, "a new device that was read", d, n, 0)
		staysOn(t, "a new device", d, 40)
	}
}

func TestAllSectorsAreTheirOwn(t *testing.T) {
	d := made(t, 65536, 65536)
	bytesOf := func(at int) []byte {
		return bytes.Repeat([]byte{byte(at), byte(at >> 8), byte(at % 251), 7}, 32)
	}
	for at := 65535; at >= 0; at-- {
		gives(t, "Write", d.Write(at, bytesOf(at)), api.OK)
	}
	if w := d.Waits(); d.Used() != 65536 || len(w) != 65536 || w[0] != 0 || w[65535] != 65535 || !slices.IsSorted(w) {
		t.Errorf("all were written: Used %d, %d wait", d.Used(), len(w))
	}
	gives(t, "Sync", d.Sync(), api.OK)
	c := d.Copy()
	gives(t, "Crash", d.Crash(bytes.Repeat([]byte{2}, 70000)), api.OK)
	for at := range 65536 {
		reads(t, "all were written", d, at, bytesOf(at))
		reads(t, "of a copy", c, at, bytesOf(at))
	}
	counts(t, "all were written", d, 65536, 65536)
}

// P6.2

func TestWriteReadSync(t *testing.T) {
	r := rand.New(rand.NewSource(1))
	d := made(t, 5, 5)
	a, b := draw(r, 128), draw(r, 128)
	gives(t, "Write 3", d.Write(3, a), api.OK)
	reads(t, "what waits", d, 3, a)
	reads(t, "beside it", d, 2, make([]byte, 128))
	reads(t, "beside it", d, 4, make([]byte, 128))
	counts(t, "one waits", d, 5, 1, 3)
	gives(t, "Sync", d.Sync(), api.OK)
	reads(t, "what lasts", d, 3, a)
	counts(t, "none waits", d, 5, 1)
	gives(t, "Write 3", d.Write(3, b), api.OK)
	gives(t, "Write 0", d.Write(0, a), api.OK)
	reads(t, "what waits, ahead of what lasts", d, 3, b)
	reads(t, "another one that waits", d, 0, a)
	counts(t, "two wait", d, 5, 2, 0, 3)
	gives(t, "Sync", d.Sync(), api.OK)
	gives(t, "Sync of nothing", d.Sync(), api.OK)
	reads(t, "what lasts", d, 3, b)
	reads(t, "what lasts", d, 0, a)
	counts(t, "none waits", d, 5, 2)
}

// Of one sector the last bytes count: read, synced, and behind a crash.
func TestSectorWrittenTwice(t *testing.T) {
	for _, c := range []struct {
		what string
		pick []byte
		want []byte
	}{
		{"lost", nil, sec('A')},
		{"lasting", []byte{1}, sec('C')},
		{"the first half", []byte{2}, halves('C', 'A')},
		{"the last half", []byte{3}, halves('A', 'C')},
	} {
		d := made(t, 2, 2)
		put(t, d, 'A', 1)
		gives(t, "Sync", d.Sync(), api.OK)
		put(t, d, 'B', 1)
		put(t, d, 'C', 1)
		reads(t, "written twice", d, 1, sec('C'))
		counts(t, "written twice", d, 2, 1, 1)
		e := d.Copy()
		gives(t, "Sync", e.Sync(), api.OK)
		reads(t, "written twice, synced", e, 1, sec('C'))
		gives(t, "Crash", d.Crash(c.pick), api.OK)
		reads(t, "written twice, "+c.what, d, 1, c.want)
	}
}

// A sector that is written with the bytes that it has waits, too.
func TestSameBytesWait(t *testing.T) {
	d := made(t, 3, 2)
	put(t, d, 0, 2)
	counts(t, "noughts were written", d, 3, 1, 2)
	put(t, d, 7, 0)
	gives(t, "Sync", d.Sync(), api.OK)
	put(t, d, 7, 0)
	counts(t, "written as it was", d, 3, 2, 0)
	gives(t, "Write of a third one", d.Write(1, sec(0)), api.ErrFull)
	// It takes a pick.
	put(t, d, 8, 2)
	gives(t, "Crash", d.Crash([]byte{0, 1}), api.OK)
	reads(t, "behind the second pick", d, 2, sec(8))
}

func TestSectorsAndLengthsAtTheEdges(t *testing.T) {
	for _, n := range []int{1, 2, 5, 65536} {
		d := made(t, n, n)
		for _, at := range []int{0, n / 2, n - 1} {
			gives(t, fmt.Sprintf("Write %d of %d", at, n), d.Write(at, sec(5)), api.OK)
			reads(t, "written", d, at, sec(5))
		}
		used, waits := d.Used(), d.Waits()
		for _, at := range []int{-1, -2, n, n + 1, -n, math.MinInt, math.MaxInt, 1 << 32, -1 << 32, 65536} {
			gives(t, fmt.Sprintf("Write %d of %d", at, n), d.Write(at, sec(6)), api.ErrArg)
			refuses(t, fmt.Sprintf("of %d", n), d, at, api.ErrArg)
		}
		for _, at := range []int{0, n - 1} {
			for _, b := range [][]byte{nil, {}, {1}, sec(6)[:64], sec(6)[:127], append(sec(6), 6), draw(rand.New(rand.NewSource(2)), 512), make([]byte, 70000)} {
				gives(t, fmt.Sprintf("Write %d of %d bytes", at, len(b)), d.Write(at, b), api.ErrArg)
				reads(t, "behind a refusal", d, at, sec(5))
			}
		}
		// A part of a longer list has its own length.
		gives(t, "Write of a part", d.Write(0, append(sec(9), sec(1)...)[:128]), api.OK)
		reads(t, "a part", d, 0, sec(9))
		counts(t, "behind refusals", d, n, used, waits...)
	}
}

func TestFull(t *testing.T) {
	for _, c := range []struct{ sectors, most int }{{1, 0}, {4, 0}, {4, 1}, {4, 2}, {4, 3}, {65536, 5}} {
		d := made(t, c.sectors, c.most)
		what := fmt.Sprintf("of %d sectors, most %d", c.sectors, c.most)
		var waits []int
		// From the last sector down, so that no number below the most counts for itself.
		for i := range c.most {
			at := c.sectors - 1 - i
			put(t, d, 'A', at)
			waits = append([]int{at}, waits...)
		}
		refused := func(when string) {
			t.Helper()
			for _, at := range []int{0, c.sectors - 1 - c.most} {
				gives(t, what+when+": Write of one more", d.Write(at, sec('B')), api.ErrFull)
				reads(t, what+when+": one more", d, at, make([]byte, 128))
			}
		}
		refused("")
		counts(t, what, d, c.sectors, c.most, waits...)
		for _, at := range waits {
			put(t, d, 'C', at)
		}
		refused(", written again")
		counts(t, what+", written again", d, c.sectors, c.most, waits...)
		gives(t, "Sync", d.Sync(), api.OK)
		refused(", synced")
		for _, at := range waits {
			put(t, d, 'D', at)
			reads(t, what, d, at, sec('D'))
		}
		gives(t, "Crash", d.Crash(nil), api.OK)
		refused(", behind a crash")
		counts(t, what+", behind a crash", d, c.sectors, c.most)
	}
}

// As many as there are may be written: none is ever one too many.
func TestNeverFull(t *testing.T) {
	d := made(t, 9, 9)
	for range 3 {
		for at := range 9 {
			put(t, d, byte(at), at)
		}
	}
	counts(t, "all were written", d, 9, 9, 0, 1, 2, 3, 4, 5, 6, 7, 8)
}

// What was lost counts as written all the same.
func TestLostSectorsCountAsWritten(t *testing.T) {
	for pick := range 4 {
		d := made(t, 4, 2)
		put(t, d, 'A', 3, 1)
		gives(t, "Crash", d.Crash([]byte{byte(pick), byte(pick)}), api.OK)
		counts(t, "behind a crash", d, 4, 2)
		gives(t, "Write of a third one", d.Write(0, sec('B')), api.ErrFull)
		put(t, d, 'C', 1, 3)
		counts(t, "written again", d, 4, 2, 1, 3)
	}
}

// What is refused with an argument's error, or for want of room, is no
// operation, and no more is what only asks: the power goes where it would have
// gone without it.
func TestRefusalsAreNoOperations(t *testing.T) {
	for n := 1; n < 6; n++ {
		d := made(t, 4, 2)
		put(t, d, 'A', 0, 1)
		gives(t, "Arm", d.Arm(n), api.OK)
		refused := func() {
			t.Helper()
			for range 3 {
				gives(t, "Write -1", d.Write(-1, sec(1)), api.ErrArg)
				gives(t, "Write 4", d.Write(4, sec(1)), api.ErrArg)
				gives(t, "Write of 127", d.Write(0, sec(1)[:127]), api.ErrArg)
				gives(t, "Write of none", d.Write(2, nil), api.ErrArg)
				gives(t, "Write of a third one", d.Write(2, sec(1)), api.ErrFull)
				gives(t, "Arm -1", d.Arm(-1), api.ErrArg)
				gives(t, "Arm of too many", d.Arm(api.MaxOps+1), api.ErrArg)
				refuses(t, "of 4", d, 4, api.ErrArg)
				reads(t, "of 4", d, 0, sec('A'))
				reads(t, "of 4", d, 3, make([]byte, 128))
				counts(t, "of 4", d, 4, 2, 0, 1)
				d.Copy().Sync()
			}
		}
		for i := 1; i < n; i++ {
			refused()
			put(t, d, 'A', i%2)
		}
		refused()
		gives(t, fmt.Sprintf("the operation %d", n), d.Write(1, sec('A')), api.ErrDown)
	}
}

// The power goes at a Write: its bytes wait, and the sector counts as written.
func TestPowerGoesAtAWrite(t *testing.T) {
	for _, c := range []struct {
		picks []byte
		want  []byte
	}{
		{nil, sec('A')},
		{[]byte{0, 0}, sec('A')},
		{[]byte{0, 1}, sec('B')},
		{[]byte{0, 2}, halves('B', 'A')},
		{[]byte{0, 3}, halves('A', 'B')},
	} {
		d := made(t, 5, 3)
		put(t, d, 'A', 3)
		gives(t, "Sync", d.Sync(), api.OK)
		gives(t, "Arm", d.Arm(2), api.OK)
		put(t, d, 'C', 1)
		gives(t, "Write 3", d.Write(3, sec('B')), api.ErrDown)
		counts(t, "the power has gone", d, 5, 2, 1, 3)
		gives(t, "Crash", d.Crash(c.picks), api.OK)
		reads(t, "behind it", d, 1, make([]byte, 128))
		reads(t, "behind it", d, 3, c.want)
		counts(t, "behind it", d, 5, 2)
	}
	// A sector that was never written.
	for pick, want := range [][]byte{sec(0), sec('B'), halves('B', 0), halves(0, 'B')} {
		d := made(t, 5, 1)
		gives(t, "Arm", d.Arm(1), api.OK)
		gives(t, "Write 4", d.Write(4, sec('B')), api.ErrDown)
		counts(t, "the power has gone", d, 5, 1, 4)
		gives(t, "Crash", d.Crash([]byte{byte(pick)}), api.OK)
		reads(t, "behind it", d, 4, want)
		counts(t, "behind it", d, 5, 1)
		gives(t, "Write of a second one", d.Write(0, sec('C')), api.ErrFull)
		gives(t, "Write of the same one", d.Write(4, sec('D')), api.OK)
	}
	// One that waits already: the bytes of this Write are the last ones.
	d := made(t, 2, 1)
	gives(t, "Arm", d.Arm(2), api.OK)
	put(t, d, 'A', 0)
	gives(t, "Write 0", d.Write(0, sec('B')), api.ErrDown)
	gives(t, "Crash", d.Crash([]byte{1}), api.OK)
	reads(t, "behind it", d, 0, sec('B'))
}

// The power goes at a Sync: nothing has become lasting by it.
func TestPowerGoesAtASync(t *testing.T) {
	for pick, want := range [][]byte{sec('A'), sec('B'), halves('B', 'A'), halves('A', 'B')} {
		d := made(t, 3, 2)
		put(t, d, 'A', 0, 2)
		gives(t, "Sync", d.Sync(), api.OK)
		put(t, d, 'B', 0, 2)
		gives(t, "Arm", d.Arm(1), api.OK)
		gives(t, "Sync", d.Sync(), api.ErrDown)
		counts(t, "the power has gone", d, 3, 2, 0, 2)
		gives(t, "Sync, later on", d.Sync(), api.ErrDown)
		counts(t, "a Sync later on", d, 3, 2, 0, 2)
		gives(t, "Crash", d.Crash([]byte{byte(pick), byte(pick)}), api.OK)
		reads(t, "behind it", d, 0, want)
		reads(t, "behind it", d, 2, want)
		counts(t, "behind it", d, 3, 2)
	}
}

// Where the power is off, each call answers ErrDown till a crash, and changes nothing.
func TestOffTillACrash(t *testing.T) {
	d := made(t, 4, 2)
	put(t, d, 'A', 1)
	gives(t, "Sync", d.Sync(), api.OK)
	put(t, d, 'B', 1)
	gives(t, "Arm", d.Arm(1), api.OK)
	gives(t, "Sync", d.Sync(), api.ErrDown)
	for range 5 {
		for _, at := range []int{0, 1, 2, 3, 4, -1, math.MinInt, math.MaxInt} {
			refuses(t, "off", d, at, api.ErrDown)
			for _, n := range []int{0, 127, 128, 129} {
				gives(t, fmt.Sprintf("off: Write %d of %d bytes", at, n), d.Write(at, make([]byte, n)), api.ErrDown)
			}
		}
		for _, n := range []int{0, 1, 5, api.MaxOps, api.MaxOps + 1, -1, math.MinInt, math.MaxInt} {
			gives(t, fmt.Sprintf("off: Arm %d", n), d.Arm(n), api.ErrDown)
		}
		gives(t, "off: Sync", d.Sync(), api.ErrDown)
		counts(t, "off", d, 4, 1, 1)
	}
	gives(t, "Crash", d.Crash([]byte{1}), api.OK)
	reads(t, "on again", d, 1, sec('B'))
	// Neither the calls of Arm nor the operations that were refused count.
	staysOn(t, "on again", d, 20)
	put(t, d, 'C', 2)
	gives(t, "a third sector", d.Write(0, sec('C')), api.ErrFull)
}

// ErrDown ahead of ErrArg and ErrFull; ErrArg ahead of ErrFull.
func TestOrderOfErrors(t *testing.T) {
	d := made(t, 3, 1)
	put(t, d, 'A', 0)
	gives(t, "no room", d.Write(1, sec(1)), api.ErrFull)
	gives(t, "no room, 127 bytes", d.Write(1, sec(1)[:127]), api.ErrArg)
	gives(t, "no room, 129 bytes", d.Write(2, make([]byte, 129)), api.ErrArg)
	gives(t, "no room, no bytes", d.Write(2, nil), api.ErrArg)
	gives(t, "no room, no such sector", d.Write(3, sec(1)), api.ErrArg)
	gives(t, "no room, no such sector", d.Write(-1, sec(1)), api.ErrArg)
	gives(t, "Arm", d.Arm(1), api.OK)
	gives(t, "Sync", d.Sync(), api.ErrDown)
	gives(t, "off, no room", d.Write(1, sec(1)), api.ErrDown)
	gives(t, "off, 127 bytes", d.Write(0, sec(1)[:127]), api.ErrDown)
	gives(t, "off, no such sector", d.Write(3, sec(1)), api.ErrDown)
	gives(t, "off, no such number", d.Arm(-1), api.ErrDown)
	refuses(t, "off, no such sector", d, 3, api.ErrDown)
}

// P6.3

func TestArmEdges(t *testing.T) {
	for _, c := range []struct {
		n    int
		want api.Errno
	}{
		{-1, api.ErrArg},
		{0, api.OK},
		{1, api.OK},
		{2, api.OK},
		{1<<30 - 1, api.OK},
		{1 << 30, api.OK},
		{1<<30 + 1, api.ErrArg},
		{1 << 31, api.ErrArg},
		{1<<32 + 1, api.ErrArg},
		{-1 << 32, api.ErrArg},
		{math.MaxInt, api.ErrArg},
		{math.MinInt, api.ErrArg},
	} {
		d := made(t, 1, 1)
		gives(t, fmt.Sprintf("Arm %d", c.n), d.Arm(c.n), c.want)
		if c.n == 1 || c.n == 2 {
			goesAt(t, fmt.Sprintf("armed with %d", c.n), d, c.n)
		} else {
			staysOn(t, fmt.Sprintf("armed with %d, or not", c.n), d, 100)
		}
	}
}

// At the n-th operation from then on, be it a Write or a Sync, whatever was ahead of it.
func TestArm(t *testing.T) {
	r := rand.New(rand.NewSource(3))
	for n := 1; n < 60; n++ {
		d := made(t, 3, 3)
		operate := func() api.Errno {
			if r.Intn(2) == 0 {
				return d.Sync()
			}
			return d.Write(r.Intn(3), draw(r, 128))
		}
		for range r.Intn(5) {
			gives(t, "ahead", operate(), api.OK)
		}
		gives(t, "Arm", d.Arm(n), api.OK)
		for i := 1; i < n; i++ {
			gives(t, fmt.Sprintf("the operation %d of %d", i, n), operate(), api.OK)
		}
		for range 9 {
			gives(t, fmt.Sprintf("from the operation %d on", n), operate(), api.ErrDown)
		}
	}
}

// Armed anew, it counts from then on; with 0 it is no longer armed; a number
// that may not be leaves it armed as it was.
func TestArmAnew(t *testing.T) {
	for first := range 5 {
		for then := range 8 {
			for ahead := 0; ahead < first || ahead == 0; ahead++ {
				d := made(t, 1, 1)
				gives(t, "Arm", d.Arm(first), api.OK)
				staysOn(t, "ahead of arming anew", d, ahead)
				gives(t, "Arm anew", d.Arm(then), api.OK)
				what := fmt.Sprintf("armed with %d, then with %d", first, then)
				if then == 0 {
					staysOn(t, what, d, 20)
				} else {
					goesAt(t, what, d, then)
				}
			}
		}
		d := made(t, 1, 1)
		gives(t, "Arm", d.Arm(first+1), api.OK)
		gives(t, "Arm -1", d.Arm(-1), api.ErrArg)
		gives(t, "Arm of too many", d.Arm(api.MaxOps+1), api.ErrArg)
		goesAt(t, "armed, then refused", d, first+1)
	}
}

// Each pick, modulo 4, of a sector that lasts and of one that was never synced.
func TestPicks(t *testing.T) {
	for pick := range 256 {
		d := made(t, 2, 2)
		put(t, d, 'A', 0)
		gives(t, "Sync", d.Sync(), api.OK)
		put(t, d, 'B', 0, 1)
		gives(t, "Crash", d.Crash([]byte{byte(pick), byte(pick)}), api.OK)
		old := [][]byte{sec('A'), sec('B'), halves('B', 'A'), halves('A', 'B')}
		none := [][]byte{sec(0), sec('B'), halves('B', 0), halves(0, 'B')}
		reads(t, fmt.Sprintf("the pick %d", pick), d, 0, old[pick%4])
		reads(t, fmt.Sprintf("the pick %d", pick), d, 1, none[pick%4])
		counts(t, fmt.Sprintf("the pick %d", pick), d, 2, 2)
	}
}

// Picks go by rising numbers of the sectors that wait, however they were
// written; too few are 0 for the others, too many are for nobody.
func TestPicksGoByRisingNumbers(t *testing.T) {
	order := []int{700, 3, 65535, 0, 41, 256, 1, 9}
	rising := []int{0, 1, 3, 9, 41, 256, 700, 65535}
	for _, off := range []bool{false, true} {
		for n := range 12 {
			d := made(t, 65536, 20)
			put(t, d, 'x', 2, 8, 65534)
			put(t, d, 'A', order...)
			gives(t, "Sync", d.Sync(), api.OK)
			put(t, d, 'B', order...)
			put(t, d, 'B', order[:3]...)
			counts(t, "written out of order", d, 65536, 11, rising...)
			if off {
				gives(t, "Arm", d.Arm(1), api.OK)
				gives(t, "Sync", d.Sync(), api.ErrDown)
			}
			picks := []byte{1, 0, 2, 3, 1, 7, 4, 5, 1, 1, 1, 1}[:n]
			gives(t, "Crash", d.Crash(picks), api.OK)
			want := [][]byte{sec('B'), sec('A'), halves('B', 'A'), halves('A', 'B'), sec('B'), halves('A', 'B'), sec('A'), sec('B')}
			for i, at := range rising {
				if i >= n {
					want[i] = sec('A')
				}
				reads(t, fmt.Sprintf("the place %d, %d picks", i, n), d, at, want[i])
			}
			for _, at := range []int{2, 8, 65534} {
				reads(t, "a sector that did not wait", d, at, sec('x'))
			}
			counts(t, "behind it", d, 65536, 11)
		}
	}
}

// Behind a crash nothing waits, the power is on, nothing is armed.
func TestBehindACrash(t *testing.T) {
	for _, off := range []bool{false, true} {
		for _, picks := range [][]byte{nil, {}, {1}, {0, 1, 2, 3, 9}} {
			d := made(t, 3, 3)
			put(t, d, 'A', 0, 1, 2)
			n := 5
			if off {
				n = 1
			}
			gives(t, "Arm", d.Arm(n), api.OK)
			if off {
				gives(t, "Write", d.Write(1, sec('B')), api.ErrDown)
			}
			gives(t, "Crash", d.Crash(picks), api.OK)
			counts(t, "behind a crash", d, 3, 3)
			var was [3][]byte
			for at := range was {
				was[at], _ = d.Read(at)
			}
			staysOn(t, "behind a crash", d, 20)
			// Nothing waits: no other crash changes anything.
			gives(t, "Crash", d.Crash([]byte{1, 1, 1}), api.OK)
			for at, b := range was {
				reads(t, "behind another crash", d, at, b)
			}
			gives(t, "Arm", d.Arm(2), api.OK)
			goesAt(t, "armed behind a crash", d, 2)
		}
	}
}

// A crash without anything that waits, and of a new device.
func TestCrashOfNothing(t *testing.T) {
	d := made(t, 2, 1)
	for _, picks := range [][]byte{nil, {}, {1}, bytes.Repeat([]byte{3}, 70000)} {
		gives(t, "Crash of a new device", d.Crash(picks), api.OK)
		counts(t, "a new device behind a crash", d, 2, 0)
		reads(t, "a new device behind a crash", d, 1, sec(0))
	}
	put(t, d, 'A', 1)
	gives(t, "Sync", d.Sync(), api.OK)
	gives(t, "Crash", d.Crash([]byte{3, 2}), api.OK)
	reads(t, "nothing waited", d, 1, sec('A'))
}

// P6.4

func TestNumbersWithThePowerOff(t *testing.T) {
	d := made(t, 6, 4)
	put(t, d, 'A', 5, 0)
	gives(t, "Sync", d.Sync(), api.OK)
	put(t, d, 'B', 4, 0)
	gives(t, "Arm", d.Arm(1), api.OK)
	gives(t, "Write 2", d.Write(2, sec('B')), api.ErrDown)
	counts(t, "off", d, 6, 4, 0, 2, 4)
	c := d.Copy()
	counts(t, "a copy, off", c, 6, 4, 0, 2, 4)
	refuses(t, "a copy, off", c, 0, api.ErrDown)
	gives(t, "a copy, off: Sync", c.Sync(), api.ErrDown)
	gives(t, "Crash of the copy", c.Crash([]byte{1, 2, 3}), api.OK)
	for at, want := range [][]byte{sec('B'), sec(0), halves('B', 0), sec(0), halves(0, 'B'), sec('A')} {
		reads(t, "the copy behind a crash", c, at, want)
	}
	gives(t, "the copy: Write of a fifth one", c.Write(1, sec(1)), api.ErrFull)
	staysOn(t, "the copy behind a crash", c, 9)
	// The first one is off still, and takes its own picks.
	counts(t, "off still", d, 6, 4, 0, 2, 4)
	refuses(t, "off still", d, 0, api.ErrDown)
	gives(t, "Crash", d.Crash([]byte{0, 1, 1}), api.OK)
	for at, want := range [][]byte{sec('A'), sec(0), sec('B'), sec(0), sec('B'), sec('A')} {
		reads(t, "behind its own crash", d, at, want)
	}
}

// A copy is armed as the device is, and each counts for itself.
func TestCopyIsArmed(t *testing.T) {
	for n := 1; n < 6; n++ {
		for ahead := range n {
			for _, which := range []int{0, 1} {
				d := made(t, 1, 1)
				gives(t, "Arm", d.Arm(n), api.OK)
				staysOn(t, "armed", d, ahead)
				pair := []*disk.Disk{d, d.Copy()}
				goesAt(t, "the one", pair[which], n-ahead)
				goesAt(t, "the other", pair[1-which], n-ahead)
			}
		}
	}
	d := made(t, 1, 1)
	c := d.Copy()
	gives(t, "Arm of the copy", c.Arm(1), api.OK)
	staysOn(t, "not armed", d, 9)
	gives(t, "Arm", d.Arm(3), api.OK)
	goesAt(t, "the copy", c, 1)
	goesAt(t, "the device", d, 3)
}

// Each goes its own way: what is written, synced, crashed of one leaves the other.
func TestCopyGoesItsOwnWay(t *testing.T) {
	for _, which := range []int{0, 1} {
		d := made(t, 4, 3)
		put(t, d, 'A', 0, 1)
		gives(t, "Sync", d.Sync(), api.OK)
		put(t, d, 'B', 1)
		pair := []*disk.Disk{d, d.Copy()}
		one, other := pair[which], pair[1-which]
		put(t, one, 'C', 0, 1, 3)
		counts(t, "the one", one, 4, 3, 0, 1, 3)
		counts(t, "the other", other, 4, 2, 1)
		reads(t, "the other", other, 0, sec('A'))
		reads(t, "the other", other, 1, sec('B'))
		gives(t, "Sync of the one", one.Sync(), api.OK)
		counts(t, "the other", other, 4, 2, 1)
		put(t, one, 'D', 1)
		gives(t, "Crash of the other", other.Crash([]byte{2}), api.OK)
		reads(t, "the other behind a crash", other, 1, halves('B', 'A'))
		reads(t, "the one", one, 1, sec('D'))
		counts(t, "the one", one, 4, 3, 1)
		// There is room for one more on the other alone.
		put(t, other, 'E', 2)
		gives(t, "the one: Write of a fourth one", one.Write(2, sec('E')), api.ErrFull)
		gives(t, "Crash of the one", one.Crash([]byte{3}), api.OK)
		for at, want := range [][]byte{sec('C'), halves('C', 'D'), sec(0), sec('C')} {
			reads(t, "the one behind a crash", one, at, want)
		}
		for at, want := range [][]byte{sec('A'), halves('B', 'A'), sec('E'), sec(0)} {
			reads(t, "the other", other, at, want)
		}
	}
}

// Of a nil device, or a zero one, there is nothing.
func TestNilAndZero(t *testing.T) {
	var never *disk.Disk
	for what, d := range map[string]*disk.Disk{"nil": never, "zero": {}, "new": new(disk.Disk)} {
		for range 3 {
			for _, at := range []int{-1, 0, 1, math.MinInt, math.MaxInt} {
				for _, b := range [][]byte{nil, {1}, sec(1), make([]byte, 129)} {
					gives(t, what+": Write", d.Write(at, b), api.ErrNil)
				}
				refuses(t, what, d, at, api.ErrNil)
				gives(t, what+": Arm", d.Arm(at), api.ErrNil)
			}
			gives(t, what+": Sync", d.Sync(), api.ErrNil)
			for _, picks := range [][]byte{nil, {}, {1, 2, 3}} {
				gives(t, what+": Crash", d.Crash(picks), api.ErrNil)
			}
			counts(t, what, d, 0, 0)
			if d.Copy() != nil {
				t.Errorf("%s: Copy is a device", what)
			}
		}
	}
}

// P6.5

// What was synced is there behind any crash, but where it was written anew
// since; of what waited every byte is the old one or the new one.
func TestWhatFollows(t *testing.T) {
	r := rand.New(rand.NewSource(4))
	for range 300 {
		const n = 12
		d := made(t, n, n)
		old, now := make([][]byte, n), make([][]byte, n)
		for at := range n {
			old[at] = make([]byte, 128)
			if r.Intn(3) > 0 {
				old[at] = draw(r, 128)
				gives(t, "Write", d.Write(at, old[at]), api.OK)
			}
		}
		gives(t, "Sync", d.Sync(), api.OK)
		for range r.Intn(2 * n) {
			at := r.Intn(n)
			now[at] = draw(r, 128)
			gives(t, "Write", d.Write(at, now[at]), api.OK)
		}
		switch r.Intn(3) {
		case 0:
			gives(t, "Arm", d.Arm(1), api.OK)
			gives(t, "Sync", d.Sync(), api.ErrDown)
		case 1:
			at := r.Intn(n)
			now[at] = draw(r, 128)
			gives(t, "Arm", d.Arm(1), api.OK)
			gives(t, "Write", d.Write(at, now[at]), api.ErrDown)
		}
		gives(t, "Crash", d.Crash(draw(r, r.Intn(2*n))), api.OK)
		for at := range n {
			b, err := d.Read(at)
			if err != api.OK || len(b) != 128 || now[at] == nil && !bytes.Equal(b, old[at]) {
				t.Fatalf("Read %d: error %d, %x, not %x", at, err, b, old[at])
			}
			for i, x := range b {
				if x != old[at][i] && x != now[at][i] {
					t.Fatalf("the byte %d of the sector %d is %x, neither %x nor %x", i, at, x, old[at][i], now[at][i])
				}
			}
		}
	}
}

// The chapter's examples

func TestExamples(t *testing.T) {
	d := made(t, 4, 2)
	gives(t, "Write 1 A", d.Write(1, sec('A')), api.OK)
	gives(t, "Sync", d.Sync(), api.OK)
	gives(t, "Write 1 B", d.Write(1, sec('B')), api.OK)
	gives(t, "Crash with 2", d.Crash([]byte{2}), api.OK)
	reads(t, "the first half of B and the last one of A", d, 1, halves('B', 'A'))

	d = made(t, 4, 2)
	gives(t, "Write 0 A", d.Write(0, sec('A')), api.OK)
	gives(t, "Write 1 A", d.Write(1, sec('A')), api.OK)
	gives(t, "Write 2 A", d.Write(2, sec('A')), api.ErrFull)
	counts(t, "then", d, 4, 2, 0, 1)

	d = made(t, 4, 2)
	gives(t, "Arm 2", d.Arm(2), api.OK)
	gives(t, "Write 0 A", d.Write(0, sec('A')), api.OK)
	gives(t, "Write 1 A", d.Write(1, sec('A')), api.ErrDown)
	refuses(t, "then", d, 0, api.ErrDown)
	gives(t, "Sync", d.Sync(), api.ErrDown)
	gives(t, "Crash with 0, 1", d.Crash([]byte{0, 1}), api.OK)
	reads(t, "noughts", d, 0, sec(0))
	reads(t, "A", d, 1, sec('A'))
}

// All of it, against a slow model

// step is something that was done to a device: a Write or a Sync that was an
// operation, or a crash.
type step struct {
	kind  string // "write", "sync", "crash"
	at    int
	b     []byte
	picks []byte
	off   bool // the power went at it
}

// model is a device by the chapter's words: all that was done to it since it
// was made, and how many operations had been when it was armed. What it
// answers is reckoned anew from these each time.
type model struct {
	sectors, most int
	steps         []step
	armed, since  int // armed with so many, when so many operations had been
}

// operations is how many there were, of all times.
func (m *model) operations() int {
	n := 0
	for _, s := range m.steps {
		if s.kind != "crash" {
			n++
		}
	}
	return n
}

func (m *model) off() bool {
	return len(m.steps) > 0 && m.steps[len(m.steps)-1].off
}

// add adds an operation; ErrDown, if the power goes at it.
func (m *model) add(s step) api.Errno {
	s.off = m.armed > 0 && m.operations()+1 == m.since+m.armed
	m.steps = append(m.steps, s)
	if s.off {
		return api.ErrDown
	}
	return api.OK
}

// reckon is which sectors were written, the bytes of those that wait, and what
// lasts of all of them.
func (m *model) reckon() (written map[int]bool, waiting map[int][]byte, lasting [][]byte) {
	written, waiting = map[int]bool{}, map[int][]byte{}
	for range m.sectors {
		lasting = append(lasting, make([]byte, 128))
	}
	for _, s := range m.steps {
		switch {
		case s.kind == "write":
			written[s.at] = true
			waiting[s.at] = s.b
		case s.kind == "sync" && !s.off:
			for at, b := range waiting {
				lasting[at] = b
			}
			waiting = map[int][]byte{}
		case s.kind == "crash":
			place := 0
			for at := range m.sectors {
				if waiting[at] == nil {
					continue
				}
				pick := 0
				if place < len(s.picks) {
					pick = int(s.picks[place]) % 4
				}
				place++
				b := make([]byte, 128)
				for i := range b {
					b[i] = lasting[at][i]
					if pick == 1 || pick == 2 && i < 64 || pick == 3 && i >= 64 {
						b[i] = waiting[at][i]
					}
				}
				lasting[at] = b
			}
			waiting = map[int][]byte{}
		}
	}
	return written, waiting, lasting
}

func (m *model) write(at int, b []byte) api.Errno {
	if m.off() {
		return api.ErrDown
	}
	if at < 0 || at >= m.sectors || len(b) != 128 {
		return api.ErrArg
	}
	if written, _, _ := m.reckon(); !written[at] && len(written) >= m.most {
		return api.ErrFull
	}
	return m.add(step{kind: "write", at: at, b: slices.Clone(b)})
}

func (m *model) read(at int) ([]byte, api.Errno) {
	if m.off() {
		return nil, api.ErrDown
	}
	if at < 0 || at >= m.sectors {
		return nil, api.ErrArg
	}
	_, waiting, lasting := m.reckon()
	if b := waiting[at]; b != nil {
		return b, api.OK
	}
	return lasting[at], api.OK
}

func (m *model) sync() api.Errno {
	if m.off() {
		return api.ErrDown
	}
	return m.add(step{kind: "sync"})
}

func (m *model) arm(n int) api.Errno {
	if m.off() {
		return api.ErrDown
	}
	if n < 0 || n > 1<<30 {
		return api.ErrArg
	}
	m.armed, m.since = n, m.operations()
	return api.OK
}

func (m *model) crash(picks []byte) api.Errno {
	m.steps = append(m.steps, step{kind: "crash", picks: slices.Clone(picks)})
	m.armed = 0
	return api.OK
}

func (m *model) copy() *model {
	c := *m
	c.steps = slices.Clone(m.steps)
	return &c
}

// alike tells it, and ends the test, if a device is not as its model is.
func alike(t *testing.T, what string, d *disk.Disk, m *model) {
	t.Helper()
	written, waiting, _ := m.reckon()
	var waits []int
	for at := range m.sectors {
		if waiting[at] != nil {
			waits = append(waits, at)
		}
	}
	if d.Sectors() != m.sectors || d.Used() != len(written) || !slices.Equal(d.Waits(), waits) {
		t.Fatalf("%s: Sectors %d, Used %d, Waits %v, not %d, %d, %v", what, d.Sectors(), d.Used(), d.Waits(), m.sectors, len(written), waits)
	}
	for at := -1; at <= m.sectors; at++ {
		got, err := d.Read(at)
		want, wantErr := m.read(at)
		if err != wantErr || !bytes.Equal(got, want) {
			t.Fatalf("%s: Read %d: error %d, %x, not %d, %x", what, at, err, got, wantErr, want)
		}
	}
}

// length draws how long the bytes of a Write are: mostly as they should be.
func length(r *rand.Rand) int {
	if r.Intn(8) == 0 {
		return []int{0, 1, 64, 127, 129, 256}[r.Intn(6)]
	}
	return 128
}

// call does the same to a device and its model: one call, drawn, of which it
// tells what it was, and both errors.
func call(r *rand.Rand, d *disk.Disk, m *model) (string, api.Errno, api.Errno) {
	switch k := r.Intn(20); {
	case k < 11:
		at, b := r.Intn(m.sectors+2)-1, draw(r, length(r))
		return fmt.Sprintf("Write %d of %d bytes", at, len(b)), d.Write(at, b), m.write(at, b)
	case k < 14:
		return "Sync", d.Sync(), m.sync()
	case k < 17:
		n := r.Intn(9) - 1
		if r.Intn(9) == 0 {
			n = 1<<30 + r.Intn(2)
		}
		return fmt.Sprintf("Arm %d", n), d.Arm(n), m.arm(n)
	}
	picks := draw(r, r.Intn(m.sectors+3))
	return fmt.Sprintf("Crash %v", picks), d.Crash(picks), m.crash(picks)
}

func TestDevicesAreTheWordsWay(t *testing.T) {
	r := rand.New(rand.NewSource(5))
	for range 400 {
		sectors := 1 + r.Intn(6)
		most := r.Intn(sectors + 1)
		d, m := made(t, sectors, most), &model{sectors: sectors, most: most}
		past := fmt.Sprintf("New(%d, %d)", sectors, most)
		for range 40 {
			what, err, want := call(r, d, m)
			past += ", " + what
			if err != want {
				t.Fatalf("%s: error %d, not %d", past, err, want)
			}
			alike(t, past, d, m)
		}
	}
}

// A device, its copies, and theirs: each is as its own model.
func TestCopiesAreTheWordsWay(t *testing.T) {
	r := rand.New(rand.NewSource(6))
	for range 100 {
		sectors := 1 + r.Intn(5)
		most := r.Intn(sectors + 1)
		devices, models := []*disk.Disk{made(t, sectors, most)}, []*model{{sectors: sectors, most: most}}
		for range 80 {
			i := r.Intn(len(devices))
			if len(devices) < 5 && r.Intn(10) == 0 {
				devices, models = append(devices, devices[i].Copy()), append(models, models[i].copy())
				continue
			}
			what, err, want := call(r, devices[i], models[i])
			if err != want {
				t.Fatalf("%s of the device %d: error %d, not %d", what, i, err, want)
			}
			for k, d := range devices {
				alike(t, fmt.Sprintf("the device %d behind %s of the device %d", k, what, i), d, models[k])
			}
		}
	}
}

// Wherever the power goes in a row of calls, and whatever becomes of what
// waits, the device is as the model; behind the crash the row goes on.
func TestPowerGoesAnywhere(t *testing.T) {
	r := rand.New(rand.NewSource(7))
	for range 12 {
		seed := r.Int63()
		for n := 1; n < 25; n++ {
			row := rand.New(rand.NewSource(seed))
			d, m := made(t, 4, 3), &model{sectors: 4, most: 3}
			gives(t, "Arm", d.Arm(n), m.arm(n))
			crashes := 0
			for range 40 {
				what, at, b := "Sync", row.Intn(4), draw(row, 128)
				err, want := api.OK, api.OK
				if row.Intn(4) > 0 {
					what, err, want = fmt.Sprintf("Write %d", at), d.Write(at, b), m.write(at, b)
				} else {
					err, want = d.Sync(), m.sync()
				}
				if err != want {
					t.Fatalf("armed with %d: %s: error %d, not %d", n, what, err, want)
				}
				alike(t, fmt.Sprintf("armed with %d, behind %s", n, what), d, m)
				if err == api.ErrDown {
					picks := draw(r, r.Intn(6))
					gives(t, "Crash", d.Crash(picks), m.crash(picks))
					alike(t, fmt.Sprintf("armed with %d, behind a crash", n), d, m)
					crashes++
				}
			}
			if crashes != 1 {
				t.Fatalf("armed with %d: %d crashes in 40 calls", n, crashes)
			}
		}
	}
}

// P1

// What is handed in stays as it was, the room around it too, and may be
// written over afterwards.
func TestWhatIsHandedInIsLeft(t *testing.T) {
	r := rand.New(rand.NewSource(8))
	around := draw(r, 300)
	kept := slices.Clone(around)
	b := around[50:178]
	d := made(t, 3, 2)
	gives(t, "Write 0", d.Write(0, b), api.OK)
	gives(t, "Write 1", d.Write(1, b), api.OK)
	gives(t, "Write 2", d.Write(2, b), api.ErrFull)
	gives(t, "Write 3", d.Write(3, b), api.ErrArg)
	gives(t, "Write of too few", d.Write(0, around[50:177]), api.ErrArg)
	if !bytes.Equal(around, kept) {
		t.Error("Write changes what is handed in")
	}
	clear(around)
	reads(t, "written over while it waits", d, 0, kept[50:178])
	gives(t, "Sync", d.Sync(), api.OK)
	copy(around, kept)
	for i := range around {
		around[i] ^= 0xFF
	}
	reads(t, "written over while it lasts", d, 0, kept[50:178])
	reads(t, "written over while it lasts", d, 1, kept[50:178])

	// No call writes into it, whatever becomes of the device.
	turned := slices.Clone(around)
	gives(t, "Write 0", d.Write(0, around[50:178]), api.OK)
	gives(t, "Write 0", d.Write(0, sec(9)), api.OK)
	gives(t, "Write 1", d.Write(1, around[50:178]), api.OK)
	picks := []byte{9, 9, 2, 3, 7, 7}
	gives(t, "Crash", d.Crash(picks[2:4]), api.OK)
	if !bytes.Equal(around, turned) || !bytes.Equal(picks, []byte{9, 9, 2, 3, 7, 7}) {
		t.Error("a device changes what was handed in")
	}
	want := slices.Concat(sec(9)[:64], kept[114:178])
	clear(picks)
	clear(around)
	reads(t, "behind the crash", d, 0, want)
	reads(t, "behind the crash", d, 1, slices.Concat(kept[50:114], turned[114:178]))
}

// What Read and Waits answer is new memory each time.
func TestAnswersAreNewMemory(t *testing.T) {
	d := made(t, 4, 3)
	put(t, d, 'A', 2, 0)
	gives(t, "Sync", d.Sync(), api.OK)
	put(t, d, 'B', 3, 2)
	c := d.Copy()
	want := [][]byte{sec('A'), sec(0), sec('B'), sec('B')}
	for at := range want {
		one, _ := d.Read(at)
		two, _ := d.Read(at)
		three, _ := c.Read(at)
		for _, b := range [][]byte{two, three} {
			whole := b[:cap(b)]
			for i := range whole {
				whole[i] = 77
			}
		}
		if !bytes.Equal(one, want[at]) {
			t.Errorf("two answers of Read %d share memory", at)
		}
		reads(t, "an answer was written over", d, at, want[at])
		reads(t, "an answer of its copy was written over", c, at, want[at])
		// A later Write reaches no answer.
		if at == 2 {
			put(t, d, 'C', at)
			if !bytes.Equal(one, want[at]) {
				t.Errorf("a Write changes what Read %d answered", at)
			}
			put(t, d, 'B', at)
		}
	}
	one, two, three := d.Waits(), d.Waits(), c.Waits()
	for _, l := range [][]int{two[:cap(two)], three[:cap(three)]} {
		for i := range l {
			l[i] = 1
		}
	}
	if !slices.Equal(one, []int{2, 3}) {
		t.Error("two answers of Waits share memory")
	}
	counts(t, "an answer was written over", d, 4, 3, 2, 3)
	counts(t, "an answer was written over", c, 4, 3, 2, 3)
	gives(t, "Sync", d.Sync(), api.OK)
	if !slices.Equal(one, []int{2, 3}) {
		t.Error("a Sync changes what Waits answered")
	}
}

// Two devices that were made know nothing of each other.
func TestDevicesKnowNothingOfEachOther(t *testing.T) {
	a, b := made(t, 4, 2), made(t, 4, 3)
	put(t, a, 'A', 0, 1)
	gives(t, "Arm", a.Arm(1), api.OK)
	put(t, b, 'B', 1, 2, 3)
	counts(t, "the one", a, 4, 2, 0, 1)
	counts(t, "the other", b, 4, 3, 1, 2, 3)
	gives(t, "Crash of the other", b.Crash([]byte{1}), api.OK)
	gives(t, "the one: Write", a.Write(1, sec('C')), api.ErrDown)
	reads(t, "the other", b, 0, sec(0))
	reads(t, "the other", b, 1, sec('B'))
	reads(t, "the other", b, 2, sec(0))
}

// Devices that are used at once, each by one caller, are as those that are used alone.
func TestDevicesAtOnce(t *testing.T) {
	first := made(t, 6, 5)
	put(t, first, 'A', 4, 1)
	var every sync.WaitGroup
	for i := range 8 {
		d, m := first.Copy(), &model{sectors: 6, most: 5}
		m.write(4, sec('A'))
		m.write(1, sec('A'))
		every.Go(func() {
			r := rand.New(rand.NewSource(int64(i)))
			for range 100 {
				if what, err, want := call(r, d, m); err != want {
					t.Errorf("%s: error %d, not %d", what, err, want)
				}
			}
			for at := range 6 {
				b, err := d.Read(at)
				if want, wantErr := m.read(at); err != wantErr || !bytes.Equal(b, want) {
					t.Errorf("Read %d: error %d, %x, not %d, %x", at, err, b, wantErr, want)
				}
			}
		})
	}
	every.Wait()
	counts(t, "the first one", first, 6, 2, 1, 4)
}

func BenchmarkWriteAndSync(b *testing.B) {
	d, s := made(b, api.MaxSectors, api.MaxSectors), sec(1)
	for b.Loop() {
		for at := range 16 {
			d.Write(at*1000, s)
		}
		d.Sync()
	}
}

func BenchmarkCopy(b *testing.B) {
	d, s := made(b, api.MaxSectors, api.MaxSectors), sec(1)
	for at := range 4000 {
		d.Write(at, s)
	}
	d.Sync()
	for b.Loop() {
		d.Copy()
	}
}
