package page_test

import (
	"bytes"
	"encoding/binary"
	"fmt"
	"hash/crc32"
	"math"
	"math/bits"
	"math/rand"
	"slices"
	"sync"
	"testing"

	"vicinage/api"
	"vicinage/disk"
	"vicinage/page"
)

// sumOf is the sum of bytes, by another hand than layer 1's.
func sumOf(b []byte) uint32 { return crc32.Checksum(b, crc32.MakeTable(crc32.Castagnoli)) }

// slowBytes is a page's bytes by the chapter's words: the sum of the other 508, the Lsn, the body.
func slowBytes(p api.Paper) []byte {
	b := make([]byte, 512)
	binary.LittleEndian.PutUint64(b[4:], p.Lsn)
	copy(b[12:], p.Body)
	return resum(b)
}

// resum gives 512 bytes the sum that the last 508 of them have.
func resum(b []byte) []byte {
	binary.LittleEndian.PutUint32(b, sumOf(b[4:]))
	return b
}

// slowOpen is what bytes are opened as, by the chapter's words.
func slowOpen(b []byte) (api.Paper, api.Errno) {
	switch {
	case len(b) != 512:
		return api.Paper{}, api.ErrArg
	case bytes.Count(b, []byte{0}) == 512:
		return api.Paper{Body: make([]byte, 500)}, api.OK
	case binary.LittleEndian.Uint32(b) != sumOf(b[4:]):
		return api.Paper{}, api.ErrDamaged
	}
	return api.Paper{Lsn: binary.LittleEndian.Uint64(b[4:]), Body: bytes.Clone(b[12:])}, api.OK
}

// draw draws n bytes.
func draw(r *rand.Rand, n int) []byte {
	b := make([]byte, n)
	r.Read(b)
	return b
}

// drawn draws a page.
func drawn(r *rand.Rand) api.Paper { return api.Paper{Lsn: r.Uint64(), Body: draw(r, 500)} }

// all is a page each of whose body's bytes is x.
func all(lsn uint64, x byte) api.Paper {
	return api.Paper{Lsn: lsn, Body: bytes.Repeat([]byte{x}, 500)}
}

// same tells whether two pages are the same.
func same(p, q api.Paper) bool { return p.Lsn == q.Lsn && bytes.Equal(p.Body, q.Body) }

// turned is a copy of b with the bits of mask turned at a place.
func turned(b []byte, at int, mask ...byte) []byte {
	b = bytes.Clone(b)
	for i, m := range mask {
		b[at+i] ^= m
	}
	return b
}

// gives tells it, if a call's error is not what is wanted.
func gives(t *testing.T, what string, err, want api.Errno) {
	t.Helper()
	if err != want {
		t.Errorf("%s: error %d, not %d", what, err, want)
	}
}

// bytesOf is Bytes where no error may be.
func bytesOf(t testing.TB, p api.Paper) []byte {
	t.Helper()
	b, err := page.Bytes(p)
	if err != api.OK {
		t.Fatalf("Bytes of a body of %d: error %d", len(p.Body), err)
	}
	return b
}

// opens tells it, if bytes are not opened as the page that is wanted.
func opens(t *testing.T, what string, b []byte, want api.Paper) {
	t.Helper()
	if p, err := page.Open(b); err != api.OK || !same(p, want) {
		t.Errorf("%s: Open: error %d, Lsn %d, body %x, not %d, %x", what, err, p.Lsn, p.Body, want.Lsn, want.Body)
	}
}

// shuts tells it, if Open does not tell this error and nothing beside it.
func shuts(t *testing.T, what string, b []byte, want api.Errno) {
	t.Helper()
	if p, err := page.Open(b); err != want || p.Lsn != 0 || len(p.Body) > 0 {
		t.Errorf("%s: Open: error %d, Lsn %d, %d bytes of a body, not %d", what, err, p.Lsn, len(p.Body), want)
	}
}

// made is a device, where no error may be.
func made(t testing.TB, sectors, most int) *disk.Disk {
	t.Helper()
	d, err := disk.New(sectors, most)
	if err != api.OK {
		t.Fatalf("New(%d, %d): error %d", sectors, most, err)
	}
	return d
}

// puts writes a page, where no error may be.
func puts(t *testing.T, d *disk.Disk, base, n int, p api.Paper) {
	t.Helper()
	gives(t, fmt.Sprintf("Write of page %d from %d on", n, base), page.Write(d, base, n, p), api.OK)
}

// reads tells it, if a page that is read is not what is wanted.
func reads(t *testing.T, what string, d *disk.Disk, base, n int, want api.Paper) {
	t.Helper()
	if p, err := page.Read(d, base, n); err != api.OK || !same(p, want) {
		t.Errorf("%s: Read of page %d from %d on: error %d, Lsn %d, body %x, not %d, %x", what, n, base, err, p.Lsn, p.Body, want.Lsn, want.Body)
	}
}

// refuses tells it, if Read does not tell this error and nothing beside it.
func refuses(t *testing.T, what string, d *disk.Disk, base, n int, want api.Errno) {
	t.Helper()
	if p, err := page.Read(d, base, n); err != want || p.Lsn != 0 || len(p.Body) > 0 {
		t.Errorf("%s: Read of page %d from %d on: error %d, Lsn %d, %d bytes of a body, not %d", what, n, base, err, p.Lsn, len(p.Body), want)
	}
}

// holds tells it, if the bytes of the sectors from one on are not what is wanted.
func holds(t *testing.T, what string, d *disk.Disk, at int, want []byte) {
	t.Helper()
	for i := 0; i < len(want); i += 128 {
		if b, err := d.Read(at + i/128); err != api.OK || !bytes.Equal(b, want[i:i+128]) {
			t.Errorf("%s: sector %d: error %d, %x, not %x", what, at+i/128, err, b, want[i:i+128])
		}
	}
}

// counts tells it, if the numbers of a device are not what is wanted.
func counts(t *testing.T, what string, d *disk.Disk, used int, waits ...int) {
	t.Helper()
	if d.Used() != used || !slices.Equal(d.Waits(), waits) {
		t.Errorf("%s: Used %d, Waits %v, not %d, %v", what, d.Used(), d.Waits(), used, waits)
	}
}

// crash crashes a device.
func crash(t *testing.T, d *disk.Disk, picks ...byte) {
	t.Helper()
	gives(t, "Crash", d.Crash(picks), api.OK)
}

// syncs makes all that waits last.
func syncs(t *testing.T, d *disk.Disk) {
	t.Helper()
	gives(t, "Sync", d.Sync(), api.OK)
}

// P7.1

func TestBytes(t *testing.T) {
	r := rand.New(rand.NewSource(1))
	for _, lsn := range []uint64{0, 1, 52, 255, 256, 1 << 31, 1 << 32, 0x0102030405060708, 1 << 63, math.MaxUint64 - 1, math.MaxUint64} {
		for _, body := range [][]byte{make([]byte, 500), bytes.Repeat([]byte{255}, 500), draw(r, 500), draw(r, 500)} {
			p := api.Paper{Lsn: lsn, Body: body}
			b := bytesOf(t, p)
			if want := slowBytes(p); !bytes.Equal(b, want) {
				t.Errorf("Bytes of Lsn %d: %x, not %x", lsn, b, want)
			}
			opens(t, fmt.Sprintf("of Lsn %d", lsn), b, p)
		}
	}
}

// The form, byte by byte: the lowest byte of the sum and of the Lsn first, the body behind them.
func TestBytesForm(t *testing.T) {
	p := api.Paper{Lsn: 0x8877665544332211, Body: make([]byte, 500)}
	p.Body[0], p.Body[499] = 0xAA, 0xBB
	b := bytesOf(t, p)
	if len(b) != 512 || !bytes.Equal(b[4:13], []byte{0x11, 0x22, 0x33, 0x44, 0x55, 0x66, 0x77, 0x88, 0xAA}) || b[511] != 0xBB || bytes.Count(b[13:511], []byte{0}) != 498 {
		t.Errorf("the form: %x", b)
	}
	if sum := sumOf(b[4:]); b[0] != byte(sum) || b[1] != byte(sum>>8) || b[2] != byte(sum>>16) || b[3] != byte(sum>>24) {
		t.Errorf("the sum: %x, not %x", b[:4], sum)
	}
}

func TestBytesOfOtherBodies(t *testing.T) {
	for _, body := range [][]byte{nil, {}, {1}, make([]byte, 128), make([]byte, 499), make([]byte, 501), make([]byte, 508), make([]byte, 512), make([]byte, 1000), make([]byte, 70000)} {
		for _, lsn := range []uint64{0, 7, math.MaxUint64} {
			b, err := page.Bytes(api.Paper{Lsn: lsn, Body: body})
			if err != api.ErrArg || len(b) > 0 {
				t.Errorf("Bytes of a body of %d: error %d, %d bytes", len(body), err, len(b))
			}
		}
	}
	// A part of a longer list has its own length.
	long := bytes.Repeat([]byte{3}, 600)
	opens(t, "of a part", bytesOf(t, api.Paper{Lsn: 1, Body: long[50:550]}), all(1, 3))
}

func TestBlank(t *testing.T) {
	p := page.Blank()
	if p.Lsn != 0 || len(p.Body) != 500 || bytes.Count(p.Body, []byte{0}) != 500 {
		t.Errorf("Blank: Lsn %d, body %x", p.Lsn, p.Body)
	}
	b := bytesOf(t, p)
	if bytes.Count(b, []byte{0}) == 512 || bytes.Count(b[4:], []byte{0}) != 508 || binary.LittleEndian.Uint32(b) != sumOf(make([]byte, 508)) {
		t.Errorf("Bytes of the blank page: %x", b)
	}
	opens(t, "Bytes of the blank page", b, p)
	opens(t, "512 bytes 0", make([]byte, 512), p)
}

func TestOpenOfOtherLengths(t *testing.T) {
	whole := bytesOf(t, drawn(rand.New(rand.NewSource(2))))
	long := append(bytes.Clone(whole), whole...)
	for _, n := range []int{0, 1, 4, 12, 128, 500, 508, 511, 513, 516, 640, 1024} {
		shuts(t, fmt.Sprintf("%d bytes of pages", n), long[:n], api.ErrArg)
		shuts(t, fmt.Sprintf("%d bytes 0", n), make([]byte, n), api.ErrArg)
	}
	shuts(t, "no bytes", nil, api.ErrArg)
	shuts(t, "70000 bytes 0", make([]byte, 70000), api.ErrArg)
	shuts(t, "all but the first byte", whole[1:], api.ErrArg)
	p, _ := slowOpen(whole)
	opens(t, "a part of a longer list", long[512:], p)
	opens(t, "a part of a longer list", long[:512], p)
}

// 512 bytes 0 but for one byte, at each place and of each value: none of them is a page.
func TestOpenOfNoughtsButOne(t *testing.T) {
	for at := range 512 {
		for x := 1; x < 256; x++ {
			b := make([]byte, 512)
			b[at] = byte(x)
			shuts(t, fmt.Sprintf("noughts, but for %d at %d", x, at), b, api.ErrDamaged)
		}
	}
}

// The sum is right or it is another; what the bytes are beside that does not matter.
func TestOpenAnyBytes(t *testing.T) {
	r := rand.New(rand.NewSource(3))
	for range 3000 {
		b := draw(r, 512)
		if r.Intn(3) == 0 {
			clear(b[r.Intn(512):])
		}
		if r.Intn(2) == 0 {
			resum(b)
		}
		want, wantErr := slowOpen(b)
		if p, err := page.Open(b); err != wantErr || !same(p, want) {
			t.Errorf("Open of %x: error %d, Lsn %d, not %d, %d", b, err, p.Lsn, wantErr, want.Lsn)
		}
	}
}

// A sum that only some of its bytes are right of is another.
func TestOpenHoldsAllOfTheSum(t *testing.T) {
	r := rand.New(rand.NewSource(4))
	for range 50 {
		b := bytesOf(t, drawn(r))
		for mask := 1; mask < 16; mask++ {
			c := bytes.Clone(b)
			for i := range 4 {
				if mask>>i&1 == 1 {
					c[i] ^= byte(1 + r.Intn(255))
				}
			}
			shuts(t, fmt.Sprintf("the bytes %b of the sum turned", mask), c, api.ErrDamaged)
		}
		// A sum that stands the other way round, or is told of all 512 bytes.
		c := bytes.Clone(b)
		slices.Reverse(c[:4])
		shuts(t, "the sum the other way round", c, api.ErrDamaged)
		c = append(make([]byte, 4), b[4:]...)
		binary.LittleEndian.PutUint32(c, sumOf(c))
		shuts(t, "the sum of 512 bytes", c, api.ErrDamaged)
		shuts(t, "no sum", append(make([]byte, 4), b[4:]...), api.ErrDamaged)
	}
}

// P7.2

func TestWriteRead(t *testing.T) {
	r := rand.New(rand.NewSource(5))
	for _, base := range []int{0, 1, 2, 3, 4, 5, 17} {
		d := made(t, 60, 60)
		for n := range (60 - base) / 4 {
			reads(t, "never written", d, base, n, page.Blank())
			counts(t, "never written", d, 0)
		}
		var pages []api.Paper
		for n := range (60 - base) / 4 {
			p := drawn(r)
			pages = append(pages, p)
			puts(t, d, base, n, p)
			holds(t, "written", d, base+4*n, slowBytes(p))
		}
		for n, p := range pages {
			reads(t, "written", d, base, n, p)
			// The same sectors are another page from another sector on.
			if base >= 4 {
				reads(t, "written", d, base-4, n+1, p)
			}
			if base <= 3 {
				reads(t, "written", d, base+4*n, 0, p)
			}
		}
		holds(t, "ahead of the first page", d, 0, make([]byte, 128*base))
		holds(t, "behind the last page", d, base+4*len(pages), make([]byte, 128*((60-base)%4)))
		if d.Used() != 4*len(pages) || len(d.Waits()) != 4*len(pages) || d.Waits()[0] != base {
			t.Errorf("from %d on: Used %d, Waits %v", base, d.Used(), d.Waits())
		}
	}
}

// Just the four sectors, one after the other, each of them once: as four Writes do it.
func TestWriteIsFourWrites(t *testing.T) {
	r := rand.New(rand.NewSource(6))
	for range 300 {
		base, n, p := r.Intn(20), r.Intn(5), drawn(r)
		armed := r.Intn(7)
		d := made(t, 40, r.Intn(41))
		for range r.Intn(12) {
			d.Write(r.Intn(40), draw(r, 128))
			if r.Intn(5) == 0 {
				d.Sync()
			}
		}
		gives(t, "Arm", d.Arm(armed), api.OK)
		twin := d.Copy()
		want := api.OK
		for i, b := 0, slowBytes(p); i < 4 && want == api.OK; i++ {
			want = twin.Write(base+4*n+i, b[128*i:128*i+128])
		}
		what := fmt.Sprintf("page %d from %d on, armed with %d", n, base, armed)
		gives(t, what, page.Write(d, base, n, p), want)
		counts(t, what, d, twin.Used(), twin.Waits()...)
		// As many operations are left.
		for range 4 {
			gives(t, what+": Sync", d.Sync(), twin.Sync())
		}
		crash(t, d, 1, 1, 1, 1)
		crash(t, twin, 1, 1, 1, 1)
		for at := range 40 {
			b, _ := twin.Read(at)
			holds(t, what, d, at, b)
		}
	}
}

// Read is no operation, and asks nothing of any other sector.
func TestReadChangesNothing(t *testing.T) {
	d := made(t, 12, 8)
	puts(t, d, 2, 1, all(5, 6))
	gives(t, "Arm", d.Arm(2), api.OK)
	for range 10 {
		reads(t, "read over and over", d, 2, 1, all(5, 6))
		reads(t, "read over and over", d, 2, 0, page.Blank())
		refuses(t, "read over and over", d, 2, 2, api.ErrArg)
		counts(t, "read over and over", d, 4, 6, 7, 8, 9)
	}
	gives(t, "the first operation", d.Sync(), api.OK)
	gives(t, "the second operation", d.Sync(), api.ErrDown)
}

// Where no page can be: base or n below 0, a sector that is none of the
// device's, and so great that base + 4 n would run over.
func TestPlaces(t *testing.T) {
	for _, c := range []struct {
		sectors, base, n int
		want             api.Errno
	}{
		{1, 0, 0, api.ErrArg},
		{2, 0, 0, api.ErrArg},
		{3, 0, 0, api.ErrArg},
		{3, 1, 0, api.ErrArg},
		{3, 0, 1, api.ErrArg},
		{3, -1, 0, api.ErrArg},
		{4, 0, 0, api.OK},
		{4, 1, 0, api.ErrArg},
		{4, 0, 1, api.ErrArg},
		{4, -1, 0, api.ErrArg},
		{4, 0, -1, api.ErrArg},
		{4, 4, 0, api.ErrArg},
		{4, 4, -1, api.ErrArg},
		{4, -4, 1, api.ErrArg},
		{5, 0, 0, api.OK},
		{5, 1, 0, api.OK},
		{5, 2, 0, api.ErrArg},
		{5, 0, 1, api.ErrArg},
		{5, 1, 1, api.ErrArg},
		{5, 5, -1, api.ErrArg},
		{7, 3, 0, api.OK},
		{7, 4, 0, api.ErrArg},
		{7, 0, 1, api.ErrArg},
		{8, 0, 1, api.OK},
		{8, 4, 0, api.OK},
		{8, 0, 2, api.ErrArg},
		{8, 1, 1, api.ErrArg},
		{8, 8, -1, api.ErrArg},
		{20, 5, 2, api.OK},
		{20, 5, 3, api.ErrArg},
		{21, 5, 3, api.OK},
		{21, 5, 4, api.ErrArg},
		{65536, 0, 16383, api.OK},
		{65536, 0, 16384, api.ErrArg},
		{65536, 1, 16382, api.OK},
		{65536, 1, 16383, api.ErrArg},
		{65536, 4, 16382, api.OK},
		{65536, 65532, 0, api.OK},
		{65536, 65533, 0, api.ErrArg},
		{65536, 65535, 0, api.ErrArg},
		{65536, 65536, 0, api.ErrArg},
		{65536, 65536, -1, api.ErrArg},
	} {
		d := made(t, c.sectors, c.sectors)
		what := fmt.Sprintf("page %d from %d on, of %d sectors", c.n, c.base, c.sectors)
		if c.want != api.OK {
			refuses(t, what, d, c.base, c.n, c.want)
			gives(t, what, page.Write(d, c.base, c.n, all(1, 2)), c.want)
			counts(t, what, d, 0)
			continue
		}
		reads(t, what, d, c.base, c.n, page.Blank())
		puts(t, d, c.base, c.n, all(1, 2))
		reads(t, what, d, c.base, c.n, all(1, 2))
		at := c.base + 4*c.n
		counts(t, what, d, 4, at, at+1, at+2, at+3)
	}
}

func TestPlacesDoNotRunOver(t *testing.T) {
	huge := []int{
		math.MinInt, math.MinInt + 1, math.MinInt + 4, math.MinInt / 2, math.MinInt / 4, math.MinInt/4 - 1, -1 << 32, -1 << 31, -5, -4, -1,
		1 << 14, 1 << 16, 1 << 29, 1 << 30, 1 << 31, 1 << 32, 1 << 60, 1 << 61, 1<<61 + 1, 1 << 62, 1<<62 + 1, math.MaxInt / 4, math.MaxInt/4 + 1,
		math.MaxInt / 2, math.MaxInt - 4, math.MaxInt - 3, math.MaxInt - 1, math.MaxInt,
	}
	for _, sectors := range []int{1, 3, 4, 5, 8, 40, 65536} {
		d := made(t, sectors, sectors)
		for _, x := range huge {
			for _, y := range append([]int{0, 1, 2, 4}, huge...) {
				what := fmt.Sprintf("of %d sectors", sectors)
				if x < 0 || y < 0 || x > 16383 {
					refuses(t, what, d, y, x, api.ErrArg)
					gives(t, fmt.Sprintf("%s: page %d from %d on", what, x, y), page.Write(d, y, x, all(1, 2)), api.ErrArg)
				}
				if x < 0 || y < 0 || x > 65532 {
					refuses(t, what, d, x, y, api.ErrArg)
					gives(t, fmt.Sprintf("%s: page %d from %d on", what, y, x), page.Write(d, x, y, all(1, 2)), api.ErrArg)
				}
			}
		}
		counts(t, "behind refusals", d, 0)
	}
}

// ErrArg of the body, ErrNil, ErrArg of base and n, the device's errors.
func TestOrderOfErrors(t *testing.T) {
	short := api.Paper{Lsn: 1, Body: make([]byte, 499)}
	long := api.Paper{Lsn: 1, Body: make([]byte, 501)}
	none := api.Paper{Lsn: 1}
	off, full := made(t, 8, 8), made(t, 8, 0)
	gives(t, "Arm", off.Arm(1), api.OK)
	gives(t, "Sync", off.Sync(), api.ErrDown)
	for _, c := range []struct {
		what          string
		d             *disk.Disk
		place, inside api.Errno
	}{
		{"no device", nil, api.ErrNil, api.ErrNil},
		{"a zero device", &disk.Disk{}, api.ErrNil, api.ErrNil},
		{"the power off", off, api.ErrArg, api.ErrDown},
		{"no room", full, api.ErrArg, api.ErrFull},
	} {
		for _, at := range []struct{ base, n int }{{-1, 0}, {0, -1}, {0, 2}, {5, 0}, {8, 0}, {math.MaxInt, math.MaxInt}, {math.MinInt, math.MinInt}, {0, math.MaxInt}} {
			what := fmt.Sprintf("%s, page %d from %d on", c.what, at.n, at.base)
			for _, p := range []api.Paper{short, long, none} {
				gives(t, what+", another body", page.Write(c.d, at.base, at.n, p), api.ErrArg)
			}
			gives(t, what, page.Write(c.d, at.base, at.n, all(1, 2)), c.place)
			refuses(t, what, c.d, at.base, at.n, c.place)
		}
		for _, p := range []api.Paper{short, long, none} {
			gives(t, c.what+", another body", page.Write(c.d, 4, 0, p), api.ErrArg)
		}
		gives(t, c.what, page.Write(c.d, 4, 0, all(1, 2)), c.inside)
		if c.d != full {
			refuses(t, c.what, c.d, 4, 0, c.inside)
		}
	}
	reads(t, "no room", full, 4, 0, page.Blank())
	counts(t, "no room", full, 0)
	counts(t, "the power off", off, 0)
}

// A body of another length changes nothing.
func TestWriteOfOtherBodies(t *testing.T) {
	d := made(t, 8, 8)
	puts(t, d, 0, 1, all(3, 4))
	gives(t, "Arm", d.Arm(1), api.OK)
	for _, n := range []int{0, 1, 499, 501, 512, 70000} {
		for at := range 2 {
			gives(t, fmt.Sprintf("a body of %d", n), page.Write(d, 0, at, api.Paper{Lsn: 9, Body: make([]byte, n)}), api.ErrArg)
		}
	}
	counts(t, "behind refusals", d, 4, 4, 5, 6, 7)
	reads(t, "behind refusals", d, 0, 1, all(3, 4))
	gives(t, "the first operation", d.Sync(), api.ErrDown)
}

// The power goes at each of the four sectors: those ahead of it wait, and, as
// layer 6 says, the one at which it goes.
func TestPowerGoesAtAWrite(t *testing.T) {
	was, now := all(1, 'A'), all(2, 'B')
	old, fresh := slowBytes(was), slowBytes(now)
	for n := 1; n <= 5; n++ {
		d := made(t, 12, 12)
		puts(t, d, 3, 1, was)
		syncs(t, d)
		gives(t, "Arm", d.Arm(n), api.OK)
		what := fmt.Sprintf("the power goes at the sector %d", n)
		if n == 5 {
			puts(t, d, 3, 1, now)
			gives(t, what, d.Sync(), api.ErrDown)
		} else {
			gives(t, what, page.Write(d, 3, 1, now), api.ErrDown)
			refuses(t, what, d, 3, 1, api.ErrDown)
			gives(t, what+": later on", page.Write(d, 3, 1, now), api.ErrDown)
		}
		done := min(n, 4)
		counts(t, what, d, 4, []int{7, 8, 9, 10}[:done]...)
		lost := d.Copy()
		crash(t, lost)
		reads(t, what+", all lost", lost, 3, 1, was)
		crash(t, d, 1, 1, 1, 1)
		holds(t, what, d, 7, slices.Concat(fresh[:128*done], old[128*done:]))
		if done == 4 {
			reads(t, what, d, 3, 1, now)
		} else {
			refuses(t, what, d, 3, 1, api.ErrDamaged)
		}
	}
}

func TestReadWithThePowerOff(t *testing.T) {
	d := made(t, 9, 9)
	puts(t, d, 1, 0, all(1, 'A'))
	gives(t, "Arm", d.Arm(1), api.OK)
	gives(t, "Sync", d.Sync(), api.ErrDown)
	for range 3 {
		refuses(t, "off", d, 1, 0, api.ErrDown)
		refuses(t, "off, never written", d, 1, 1, api.ErrDown)
		refuses(t, "off, none of its", d, 1, 2, api.ErrArg)
	}
	counts(t, "off", d, 4, 1, 2, 3, 4)
	crash(t, d, 1, 1, 1, 1)
	reads(t, "on again", d, 1, 0, all(1, 'A'))
}

// Fewer sectors may be written than the page has: those ahead wait, and none behind.
func TestNoRoom(t *testing.T) {
	p := all(7, 'P')
	b := slowBytes(p)
	for most := range 4 {
		d := made(t, 12, most)
		what := fmt.Sprintf("most %d", most)
		gives(t, what, page.Write(d, 2, 1, p), api.ErrFull)
		counts(t, what, d, most, []int{6, 7, 8, 9}[:most]...)
		holds(t, what, d, 6, append(bytes.Clone(b[:128*most]), make([]byte, 512-128*most)...))
		if most == 0 {
			reads(t, what, d, 2, 1, page.Blank())
		} else {
			refuses(t, what, d, 2, 1, api.ErrDamaged)
		}
		// Written again: the first error ends it again.
		gives(t, what, page.Write(d, 2, 1, all(8, 'Q')), api.ErrFull)
		holds(t, what, d, 6, append(slowBytes(all(8, 'Q'))[:128*most], make([]byte, 512-128*most)...))
	}
	// The sector behind the one for which there is no room could be written, and is not.
	d := made(t, 12, 3)
	last := bytes.Repeat([]byte{9}, 128)
	gives(t, "Write 9", d.Write(9, last), api.OK)
	syncs(t, d)
	gives(t, "most 3, of which 9 is one", page.Write(d, 2, 1, p), api.ErrFull)
	counts(t, "most 3, of which 9 is one", d, 3, 6, 7)
	holds(t, "most 3, of which 9 is one", d, 6, slices.Concat(b[:256], make([]byte, 128), last))
	// Where all four were written, there is room, however little is left.
	d = made(t, 12, 4)
	for range 3 {
		puts(t, d, 2, 1, p)
		gives(t, "another page", page.Write(d, 2, 0, p), api.ErrFull)
	}
	counts(t, "most 4", d, 4, 6, 7, 8, 9)
}

func TestWrittenTwice(t *testing.T) {
	r := rand.New(rand.NewSource(7))
	p, q := drawn(r), drawn(r)
	for _, synced := range []bool{false, true} {
		d := made(t, 4, 4)
		puts(t, d, 0, 0, p)
		if synced {
			syncs(t, d)
		}
		puts(t, d, 0, 0, q)
		reads(t, "written twice", d, 0, 0, q)
		holds(t, "written twice", d, 0, slowBytes(q))
		counts(t, "written twice", d, 4, 0, 1, 2, 3)
		syncs(t, d)
		reads(t, "written twice, synced", d, 0, 0, q)
		puts(t, d, 0, 0, p)
		reads(t, "written as it was at first", d, 0, 0, p)
	}
}

// The blank page is written like any other: its bytes have a sum.
func TestBlankPageWritten(t *testing.T) {
	d := made(t, 8, 8)
	puts(t, d, 0, 1, all(4, 4))
	puts(t, d, 0, 1, page.Blank())
	reads(t, "written blank", d, 0, 1, page.Blank())
	holds(t, "written blank", d, 4, slowBytes(page.Blank()))
	counts(t, "written blank", d, 4, 4, 5, 6, 7)
	syncs(t, d)
	reads(t, "written blank, synced", d, 0, 1, page.Blank())
	// Sectors that were written as noughts are a blank page, too.
	for at := range 4 {
		gives(t, "noughts", d.Write(at, make([]byte, 128)), api.OK)
	}
	reads(t, "noughts", d, 0, 0, page.Blank())
}

// Of two pages side by side neither touches the other, with what becomes of it.
func TestSideBySide(t *testing.T) {
	a, b, c, e := all(1, 'A'), all(2, 'B'), all(3, 'C'), all(4, 'E')
	d := made(t, 20, 20)
	puts(t, d, 3, 1, a)
	reads(t, "ahead", d, 3, 0, page.Blank())
	reads(t, "behind", d, 3, 2, page.Blank())
	puts(t, d, 3, 2, b)
	reads(t, "side by side", d, 3, 1, a)
	puts(t, d, 3, 0, c)
	reads(t, "side by side", d, 3, 1, a)
	reads(t, "side by side", d, 3, 2, b)
	syncs(t, d)
	puts(t, d, 3, 1, e)
	crash(t, d, 0, 2, 0, 3)
	reads(t, "beside a torn one", d, 3, 0, c)
	refuses(t, "torn", d, 3, 1, api.ErrDamaged)
	reads(t, "beside a torn one", d, 3, 2, b)
	puts(t, d, 3, 1, e)
	reads(t, "written anew", d, 3, 1, e)
	holds(t, "ahead of all", d, 0, make([]byte, 3*128))
	holds(t, "behind all", d, 15, make([]byte, 5*128))
}

// Pages from sectors that are not four apart share sectors: the last one that is written counts.
func TestPagesThatShareSectors(t *testing.T) {
	d := made(t, 8, 8)
	puts(t, d, 0, 0, all(1, 'A'))
	puts(t, d, 3, 0, all(2, 'B'))
	refuses(t, "its last sector was written over", d, 0, 0, api.ErrDamaged)
	reads(t, "the last one", d, 3, 0, all(2, 'B'))
	holds(t, "both", d, 0, slices.Concat(slowBytes(all(1, 'A'))[:384], slowBytes(all(2, 'B'))))
}

// P7.3

func TestOpenOfBytesIsThePage(t *testing.T) {
	r := rand.New(rand.NewSource(8))
	for range 2000 {
		p := drawn(r)
		switch r.Intn(4) {
		case 0:
			p.Lsn = 0
		case 1:
			clear(p.Body[r.Intn(500):])
		case 2:
			clear(p.Body[:r.Intn(500)])
		}
		opens(t, "of its bytes", bytesOf(t, p), p)
	}
}

// Each byte of a page turned, to each other value; and of the sum likewise.
func TestEachByteTurned(t *testing.T) {
	r := rand.New(rand.NewSource(9))
	for i, p := range []api.Paper{drawn(r), all(0, 1), all(math.MaxUint64, 0), all(0, 255)} {
		b := bytesOf(t, p)
		for at := range b {
			for x := 1; x < 256; x++ {
				shuts(t, fmt.Sprintf("the page %d, %x turned at %d", i, x, at), turned(b, at, byte(x)), api.ErrDamaged)
			}
		}
	}
}

// Some bits within four bytes in a row behind the sum.
func TestFourBytesTurned(t *testing.T) {
	r := rand.New(rand.NewSource(10))
	for range 40 {
		b := bytesOf(t, drawn(r))
		for at := 4; at <= 508; at++ {
			mask := draw(r, 4)
			for bits.OnesCount32(binary.LittleEndian.Uint32(mask)) < 2 {
				mask = draw(r, 4)
			}
			shuts(t, fmt.Sprintf("%x turned at %d", mask, at), turned(b, at, mask...), api.ErrDamaged)
			// The first and the last bit of the four bytes alone, and all of them.
			shuts(t, fmt.Sprintf("the ends turned at %d", at), turned(b, at, 0x80, 0, 0, 1), api.ErrDamaged)
			shuts(t, fmt.Sprintf("the ends turned at %d", at), turned(b, at, 1, 0, 0, 0x80), api.ErrDamaged)
			shuts(t, fmt.Sprintf("all turned at %d", at), turned(b, at, 255, 255, 255, 255), api.ErrDamaged)
		}
		for bit := range 32 {
			mask := make([]byte, 4)
			mask[bit/8] = 1 << (bit % 8)
			shuts(t, fmt.Sprintf("the bit %d of the sum", bit), turned(b, 0, mask...), api.ErrDamaged)
		}
	}
}

// solve finds four bytes at a place behind the sum with which the sum of all
// the 508 is just the one wanted; ok is whether there are such.
func solve(b []byte, at int, want uint32) (four []byte, ok bool) {
	b = bytes.Clone(b)
	clear(b[at : at+4])
	need := sumOf(b[4:]) ^ want
	var sums, masks [32]uint32 // by its highest bit: a sum that these bits bring about
	for bit := range 32 {
		c := bytes.Clone(b)
		c[at+bit/8] ^= 1 << (bit % 8)
		sum, mask := sumOf(c[4:])^sumOf(b[4:]), uint32(1)<<bit
		for sum != 0 {
			high := bits.Len32(sum) - 1
			if sums[high] == 0 {
				sums[high], masks[high] = sum, mask
				break
			}
			sum, mask = sum^sums[high], mask^masks[high]
		}
	}
	var found uint32
	for need != 0 {
		high := bits.Len32(need) - 1
		if sums[high] == 0 {
			return nil, false
		}
		need, found = need^sums[high], found^masks[high]
	}
	return binary.LittleEndian.AppendUint32(nil, found), true
}

// At each place there are four bytes that, with noughts about them, have the
// sum 0: turned to noughts they leave a blank page, and it is opened as that;
// any other bits of them turned leave a damaged one.
func TestTurnedToABlankPage(t *testing.T) {
	r := rand.New(rand.NewSource(11))
	for at := 4; at <= 508; at++ {
		b := make([]byte, 512)
		four, ok := solve(b, at, 0)
		if !ok || binary.LittleEndian.Uint32(four) == 0 {
			t.Fatalf("no four bytes at %d: %x", at, four)
		}
		copy(b[at:], four)
		want, _ := slowOpen(b)
		opens(t, fmt.Sprintf("the sum 0, by four bytes at %d", at), b, want)
		if got := bytesOf(t, want); !bytes.Equal(got, b) {
			t.Errorf("Bytes of a page with the sum 0: %x, not %x", got, b)
		}
		opens(t, "turned to noughts", turned(b, at, four...), page.Blank())
		for range 20 {
			if mask := draw(r, 4); !bytes.Equal(mask, four) && !bytes.Equal(mask, make([]byte, 4)) {
				shuts(t, "turned to something else", turned(b, at, mask...), api.ErrDamaged)
			}
		}
		shuts(t, "its sum turned", turned(b, 0, byte(1+at%255)), api.ErrDamaged)
	}
	// The blank page's own bytes become 512 bytes 0 by their sum's turning.
	b := bytesOf(t, page.Blank())
	opens(t, "the blank page without its sum", turned(b, 0, b[:4]...), page.Blank())
	for i := range 4 {
		if mask := slices.Clone(b[:4]); mask[i] != 0 {
			mask[i] = 0
			shuts(t, "the blank page with a part of its sum", turned(b, 0, mask...), api.ErrDamaged)
		}
	}
}

// A page that was written and synced is read behind any crash, whatever else waits.
func TestSyncedIsReadBehindAnyCrash(t *testing.T) {
	r := rand.New(rand.NewSource(12))
	p := drawn(r)
	for pick := range 256 {
		for _, off := range []bool{false, true} {
			d := made(t, 20, 20)
			puts(t, d, 1, 1, p)
			syncs(t, d)
			puts(t, d, 1, 0, drawn(r))
			puts(t, d, 1, 2, drawn(r))
			if off {
				gives(t, "Arm", d.Arm(1), api.OK)
				gives(t, "Sync", d.Sync(), api.ErrDown)
			}
			for range 3 {
				crash(t, d, bytes.Repeat([]byte{byte(pick)}, 30)...)
				reads(t, fmt.Sprintf("synced, behind a crash with %d", pick), d, 1, 1, p)
			}
		}
	}
}

// torn is the bytes that last: of each sector by its pick.
func torn(was, now []byte, picks []byte) []byte {
	b := bytes.Clone(was)
	for i, pick := range picks {
		s := 128 * i
		switch pick % 4 {
		case 1:
			copy(b[s:s+128], now[s:])
		case 2:
			copy(b[s:s+64], now[s:])
		case 3:
			copy(b[s+64:s+128], now[s+64:])
		}
	}
	return b
}

// One that was not synced, with each pick for each of its sectors: as it was,
// as it was to be, or damaged; and just what its bytes are then.
func TestNotSyncedBehindEachCrash(t *testing.T) {
	r := rand.New(rand.NewSource(13))
	near := drawn(r)
	nearly := api.Paper{Lsn: near.Lsn, Body: turned(near.Body, 300, 1)}
	for i, c := range []struct {
		was, now api.Paper
		never    bool // was is the blank page, for nothing was written ever
	}{
		{was: drawn(r), now: drawn(r)},
		{was: page.Blank(), now: drawn(r), never: true},
		{was: page.Blank(), now: drawn(r)},
		{was: drawn(r), now: page.Blank()},
		{was: page.Blank(), now: page.Blank(), never: true},
		{was: near, now: nearly},
		{was: near, now: near},
	} {
		for n := range 256 {
			picks := []byte{byte(n), byte(n >> 2), byte(n>>4) + 4, byte(n>>6) + 252}
			d := made(t, 9, 9)
			old := make([]byte, 512)
			if !c.never {
				puts(t, d, 1, 1, c.was)
				syncs(t, d)
				old = slowBytes(c.was)
			}
			puts(t, d, 1, 1, c.now)
			crash(t, d, picks...)
			b := torn(old, slowBytes(c.now), picks)
			what := fmt.Sprintf("the pages %d, picks %d", i, picks)
			holds(t, what, d, 5, b)
			want, wantErr := slowOpen(b)
			p, err := page.Read(d, 1, 1)
			if err != wantErr || !same(p, want) {
				t.Errorf("%s: error %d, Lsn %d, not %d, %d", what, err, p.Lsn, wantErr, want.Lsn)
			}
			if err != api.ErrDamaged && (err != api.OK || !same(p, c.was) && !same(p, c.now)) {
				t.Errorf("%s: neither as it was, nor as it was to be: error %d, Lsn %d", what, err, p.Lsn)
			}
		}
	}
}

// Of several pages that were written at one place, none of them synced, each
// crash leaves halves: what is read is one of them, or damaged.
func TestSeveralCrashes(t *testing.T) {
	r := rand.New(rand.NewSource(14))
	for range 400 {
		d := made(t, 8, 8)
		var written []api.Paper
		written = append(written, page.Blank())
		model := make([]byte, 512)
		for range 1 + r.Intn(6) {
			var last []byte
			for range 1 + r.Intn(3) {
				p := drawn(r)
				if r.Intn(3) == 0 {
					p = written[r.Intn(len(written))]
				}
				puts(t, d, 0, 1, p)
				written = append(written, p)
				last = slowBytes(p)
			}
			if r.Intn(3) == 0 {
				syncs(t, d)
				model = last
				continue
			}
			picks := []byte{1, 1, 1, 1}
			if r.Intn(3) > 0 {
				picks = draw(r, 4)
			}
			crash(t, d, picks...)
			model = torn(model, last, picks)
			want, wantErr := slowOpen(model)
			p, err := page.Read(d, 0, 1)
			one := slices.ContainsFunc(written, func(w api.Paper) bool { return same(w, p) })
			if err != wantErr || !same(p, want) || err == api.OK && !one {
				t.Errorf("behind crashes: error %d, Lsn %d, not %d, %d", err, p.Lsn, wantErr, want.Lsn)
			}
		}
	}
}

// Halves of several pages whose bytes have the right sum together are read as
// the page that they are: neither as it was, nor as it was to be.
func TestHalvesThatAreAPage(t *testing.T) {
	r := rand.New(rand.NewSource(15))
	for half := range 8 {
		// The third page is to have this half of the first one, all else of the
		// second one; where its sum stands there is its own half too, so that
		// the sum has to be right by four bytes elsewhere in the half.
		from := 64 * half
		was, now := slowBytes(drawn(r)), slowBytes(drawn(r))
		mixed := bytes.Clone(now)
		copy(mixed[from:from+64], was[from:])
		four, ok := solve(mixed, from+30, binary.LittleEndian.Uint32(mixed))
		if !ok {
			t.Fatalf("no four bytes in the half %d", half)
		}
		copy(mixed[from+30:], four)
		copy(was[from+30:], four)
		if half > 0 {
			resum(was)
		} else if other, ok := solve(was, 500, binary.LittleEndian.Uint32(was)); ok {
			copy(was[500:], other)
		}
		first, err1 := slowOpen(was)
		second, err2 := slowOpen(now)
		third, err3 := slowOpen(mixed)
		if err1 != api.OK || err2 != api.OK || err3 != api.OK || same(third, first) || same(third, second) {
			t.Fatalf("the half %d: errors %d, %d, %d", half, err1, err2, err3)
		}
		d := made(t, 4, 4)
		puts(t, d, 0, 0, first)
		syncs(t, d)
		puts(t, d, 0, 0, second)
		picks := []byte{1, 1, 1, 1}
		picks[half/2] = byte(3 - half%2)
		crash(t, d, picks...)
		reads(t, fmt.Sprintf("the half %d of the first page, all else of the second one", half), d, 0, 0, third)
	}
}

// Examples

func TestExamples(t *testing.T) {
	opens(t, "512 bytes 0", make([]byte, 512), api.Paper{Lsn: 0, Body: make([]byte, 500)})
	shuts(t, "511 bytes", make([]byte, 511), api.ErrArg)
	shuts(t, "512 bytes 1", bytes.Repeat([]byte{1}, 512), api.ErrDamaged)
	refuses(t, "of 20 sectors", made(t, 20, 20), 5, 3, api.ErrArg)
	reads(t, "of 21 sectors", made(t, 21, 21), 5, 3, api.Paper{Lsn: 0, Body: make([]byte, 500)})
}

// A slow model: what was written and what lasts, as 512 bytes a page.
func TestAgainstAModel(t *testing.T) {
	r := rand.New(rand.NewSource(16))
	for range 150 {
		base, pages := r.Intn(9), 1+r.Intn(5)
		sectors := base + 4*pages + r.Intn(4)
		d := made(t, sectors, sectors)
		lasts, waits := make([]byte, 128*sectors), make([]byte, 128*sectors)
		dirty := map[int]bool{}
		for range 60 {
			n := r.Intn(pages+3) - 1
			at := 128 * (base + 4*n)
			inside := n >= 0 && n < pages
			switch r.Intn(7) {
			case 0, 1:
				p := drawn(r)
				if r.Intn(9) == 0 {
					p.Body = p.Body[:r.Intn(500)]
				}
				if !inside || len(p.Body) != 500 {
					gives(t, "a Write that is refused", page.Write(d, base, n, p), api.ErrArg)
					continue
				}
				puts(t, d, base, n, p)
				copy(waits[at:], slowBytes(p))
				for i := range 4 {
					dirty[base+4*n+i] = true
				}
			case 2, 3, 4:
				if !inside {
					refuses(t, "none of the device's", d, base, n, api.ErrArg)
					continue
				}
				want, wantErr := slowOpen(waits[at : at+512])
				if p, err := page.Read(d, base, n); err != wantErr || !same(p, want) {
					t.Errorf("page %d from %d on: error %d, Lsn %d, not %d, %d", n, base, err, p.Lsn, wantErr, want.Lsn)
				}
			case 5:
				syncs(t, d)
				copy(lasts, waits)
				clear(dirty)
			default:
				picks := draw(r, 4*pages)
				next := 0
				for s := range sectors {
					if dirty[s] {
						part := torn(lasts[128*s:128*s+128], waits[128*s:128*s+128], picks[next:next+1])
						copy(lasts[128*s:], part)
						next++
					}
				}
				crash(t, d, picks...)
				copy(waits, lasts)
				clear(dirty)
			}
		}
	}
}

// P1

// What is handed in stays as it was, spare room behind it included, and may be
// written over afterwards.
func TestHandedIn(t *testing.T) {
	r := rand.New(rand.NewSource(17))
	room := draw(r, 2000)
	keep := bytes.Clone(room)
	p := api.Paper{Lsn: 77, Body: room[100:600]}
	want := api.Paper{Lsn: 77, Body: bytes.Clone(p.Body)}
	d := made(t, 8, 8)
	b := bytesOf(t, p)
	puts(t, d, 1, 0, p)
	if !bytes.Equal(room, keep) || p.Lsn != 77 || len(p.Body) != 500 {
		t.Error("a page that was handed in was changed")
	}
	clear(room)
	opens(t, "the page written over", b, want)
	reads(t, "the page written over", d, 1, 0, want)

	room = append(draw(r, 40), append(b, draw(r, 700)...)...)
	keep = bytes.Clone(room)
	form := room[40:552]
	q, err := page.Open(form)
	gives(t, "Open", err, api.OK)
	shuts(t, "too short", form[:511], api.ErrArg)
	room[60] ^= 1
	shuts(t, "turned", form, api.ErrDamaged)
	room[60] ^= 1
	if !bytes.Equal(room, keep) {
		t.Error("bytes that were handed in were changed")
	}
	clear(room)
	if !same(q, want) {
		t.Error("a page hangs on the bytes that were handed in")
	}
	noughts := append(make([]byte, 512), 1, 2, 3)
	blank, err := page.Open(noughts[:512])
	gives(t, "Open of noughts", err, api.OK)
	blank.Body[9] = 9
	if !bytes.Equal(noughts, append(make([]byte, 512), 1, 2, 3)) {
		t.Error("noughts that were handed in were changed")
	}
}

// Answers are new memory: written over, room behind them too, no other changes.
func TestNewMemory(t *testing.T) {
	spoil := func(b []byte) {
		b = b[:cap(b)]
		for i := range b {
			b[i] = 0xEE
		}
	}
	p := drawn(rand.New(rand.NewSource(18)))
	want := slowBytes(p)
	clean, _ := slowOpen(want)
	d := made(t, 8, 8)
	for range 3 {
		spoil(page.Blank().Body)
		if b := page.Blank(); b.Lsn != 0 || !bytes.Equal(b.Body, make([]byte, 500)) {
			t.Error("Blank hangs on one that was answered")
		}
		b1, b2 := bytesOf(t, p), bytesOf(t, p)
		spoil(b1)
		if !bytes.Equal(b2, want) || !same(p, clean) {
			t.Error("Bytes shares memory")
		}
		for _, form := range [][]byte{want, make([]byte, 512)} {
			form = bytes.Clone(form)
			keep := bytes.Clone(form)
			q1, _ := page.Open(form)
			q2, _ := page.Open(form)
			spoil(q1.Body)
			if q, _ := slowOpen(keep); !same(q, q2) || !bytes.Equal(form, keep) {
				t.Error("Open shares memory")
			}
		}
		puts(t, d, 0, 0, p)
		for n, w := range []api.Paper{clean, {Body: make([]byte, 500)}} {
			q1, _ := page.Read(d, 0, n)
			q2, _ := page.Read(d, 0, n)
			spoil(q1.Body)
			if !same(q2, w) {
				t.Error("Read shares memory")
			}
			reads(t, "behind an answer that was written over", d, 0, n, w)
		}
	}
}

// Two devices know nothing of each other, however calls go between them.
func TestDevicesApart(t *testing.T) {
	a, b := made(t, 8, 8), made(t, 8, 8)
	puts(t, a, 0, 0, all(1, 'A'))
	reads(t, "the other one", b, 0, 0, page.Blank())
	puts(t, b, 0, 0, all(2, 'B'))
	reads(t, "the first one", a, 0, 0, all(1, 'A'))
	gives(t, "Arm", a.Arm(1), api.OK)
	gives(t, "Write", page.Write(a, 0, 1, all(3, 'C')), api.ErrDown)
	puts(t, b, 0, 1, all(4, 'D'))
	reads(t, "the other one", b, 0, 0, all(2, 'B'))
	c := b.Copy()
	puts(t, c, 0, 0, all(5, 'E'))
	reads(t, "ahead of the copy", b, 0, 0, all(2, 'B'))
	reads(t, "the copy", c, 0, 0, all(5, 'E'))
	reads(t, "the copy", c, 0, 1, all(4, 'D'))
}

// Devices that are used at one time, each by one caller.
func TestAtOneTime(t *testing.T) {
	var all sync.WaitGroup
	for n := range 8 {
		all.Go(func() {
			r := rand.New(rand.NewSource(int64(n)))
			d := made(t, 40, 40)
			for range 200 {
				p, at := drawn(r), r.Intn(9)
				puts(t, d, 3, at, p)
				reads(t, "at one time", d, 3, at, p)
				if got := page.Blank(); len(got.Body) != 500 {
					t.Error("Blank")
				}
			}
		})
	}
	all.Wait()
}

func BenchmarkWrite(b *testing.B) {
	d := made(b, 65536, 65536)
	p := drawn(rand.New(rand.NewSource(19)))
	for i := range b.N {
		page.Write(d, 0, i%16384, p)
	}
}

func BenchmarkRead(b *testing.B) {
	d := made(b, 4, 4)
	page.Write(d, 0, 0, drawn(rand.New(rand.NewSource(20))))
	for range b.N {
		page.Read(d, 0, 0)
	}
}
