package pool_test

import (
	"bytes"
	"math"
	"math/rand"
	"slices"
	"testing"

	"vicinage/api"
	"vicinage/disk"
	"vicinage/page"
	"vicinage/pool"
	"vicinage/wal"
)

// logged is an empty log on a device of its own.
func logged(t testing.TB) *wal.Log {
	t.Helper()
	l, err := wal.Make(made(t, 18, 18), 0, 16)
	if err != api.OK {
		t.Fatalf("wal.Make: error %d", err)
	}
	return l
}

// off is a device without power.
func off(t testing.TB, sectors int) *disk.Disk {
	t.Helper()
	d := made(t, sectors, sectors)
	d.Arm(1)
	d.Sync()
	return d
}

// numbers is page numbers, and how many: none of these is one of a pool of n pages.
func numbers(n int) []int {
	return []int{-1, -2, n, n + 1, 2 * n, 64, 1 << 14, 1 << 16, 1 << 32, 1<<32 + 1, -(1 << 32), 1 << 62, -(1 << 62), math.MaxInt32, math.MinInt32, math.MaxInt, math.MinInt, math.MaxInt / 4, math.MinInt / 4}
}

// P11.1

func TestNoDeviceNoLog(t *testing.T) {
	fine := api.Area{Spare: 0, Base: 5, Pages: 2}
	for _, a := range []api.Area{fine, {}, {Spare: -1, Base: -1, Pages: -1}, {Spare: math.MaxInt, Base: math.MaxInt, Pages: math.MaxInt}, {Spare: math.MinInt, Base: math.MinInt, Pages: math.MinInt}} {
		for _, d := range []*disk.Disk{nil, {}} {
			if err := pool.Mend(d, a); err != api.ErrNil {
				t.Errorf("Mend of %v without a device: error %d", a, err)
			}
			for _, l := range []*wal.Log{nil, {}, logged(t)} {
				for _, frames := range []int{1, 0, 65, -1, math.MaxInt} {
					if p, err := pool.New(d, l, a, frames); p != nil || err != api.ErrNil {
						t.Errorf("New of %v, %d frames, without a device: error %d", a, frames, err)
					}
				}
			}
		}
		for _, l := range []*wal.Log{nil, {}} {
			for _, frames := range []int{1, 0, 65, -1, math.MinInt} {
				for _, d := range []*disk.Disk{made(t, 13, 13), off(t, 13)} {
					if p, err := pool.New(d, l, a, frames); p != nil || err != api.ErrNil {
						t.Errorf("New of %v, %d frames, without a log: error %d", a, frames, err)
					}
				}
			}
		}
	}
}

func TestAreas(t *testing.T) {
	const most, least = math.MaxInt, math.MinInt
	for _, c := range []struct {
		sectors, spare, base, pages int
		ok                          bool
	}{
		{13, 0, 5, 2, true},
		{13, 0, 5, 1, true},
		{13, 0, 5, 0, false},
		{13, 0, 5, -1, false},
		{13, 0, 5, least, false},
		{13, 0, 5, 3, false},
		{13, 0, 5, most, false},
		{13, 0, 5, most / 4, false},
		{13, 0, 5, most/4 + 1, false},
		{13, 0, 5, most/2 + 1, false},
		{13, 0, 5, 1 << 62, false},
		{13, 0, 5, 1<<62 + 1, false},
		{13, 0, 5, -(1 << 62), false},
		{13, 0, 5, 1<<30 + 1, false},
		{13, 0, 5, 1<<32 + 1, false},
		{13, 0, 6, 2, false},
		{13, 0, 6, 1, true},
		{13, 0, 9, 1, true},
		{13, 0, 10, 1, false},
		{13, 0, 12, 1, false},
		{13, 0, 13, 1, false},
		{13, 0, 13, 0, false},
		{13, 0, 14, 1, false},
		{13, 0, -1, 1, false},
		{13, 0, -4, 1, false},
		{13, 0, -4, 2, false},
		{13, 8, -1, 1, false},
		{13, 8, -4, 2, false},
		{13, 0, most, 1, false},
		{13, 0, most - 3, 1, false},
		{13, 0, most - 4, 1, false},
		{13, 0, most, most, false},
		{13, 0, least, 1, false},
		{13, 0, least, most, false},
		{13, 0, least, least, false},
		{13, 0, 1<<32 + 5, 1, false},
		{13, -1, 5, 2, false},
		{13, -5, 5, 2, false},
		{13, -6, 5, 2, false},
		{13, most, 5, 2, false},
		{13, most - 4, 5, 2, false},
		{13, most - 5, 5, 2, false},
		{13, least, 5, 2, false},
		{13, least + 4, 5, 2, false},
		{13, 1 << 32, 5, 2, false},
		{13, most, most, most, false},
		{13, least, least, least, false},
		// The spare sectors behind the pages, and among them at either end.
		{13, 8, 0, 2, true},
		{13, 7, 0, 2, false},
		{13, 9, 0, 2, false},
		{14, 9, 0, 2, true},
		{14, 9, 1, 2, true},
		{14, 8, 1, 2, false},
		{14, 9, 2, 2, false},
		{13, 8, 4, 1, true},
		{13, 8, 5, 1, false},
		{13, 4, 0, 1, true},
		{13, 3, 0, 1, false},
		{13, 4, 0, 2, false},
		{13, 0, 4, 2, false},
		{13, 0, 4, 1, false},
		{13, 0, 1, 3, false},
		{13, 0, 0, 1, false},
		{13, 1, 0, 1, false},
		{13, 1, 0, 2, false},
		{13, 1, 0, 3, false},
		{13, 2, 2, 1, false},
		{13, 5, 5, 2, false},
		// Apart from each other.
		{20, 0, 7, 3, true},
		{20, 14, 1, 3, true},
		{20, 15, 1, 3, true},
		{20, 16, 1, 3, false},
		{9, 0, 5, 1, true},
		{9, 4, 0, 1, true},
		{8, 0, 5, 1, false},
		{8, 4, 0, 1, false},
		{1, 0, 0, 1, false},
		{4, 0, 0, 1, false},
		{65536, 0, 5, 16382, true},
		{65536, 0, 5, 16383, false},
		{65536, 0, 8, 16382, true},
		{65536, 0, 9, 16382, false},
		{65536, 65531, 0, 16382, true},
		{65536, 65531, 3, 16382, true},
		{65536, 65531, 4, 16382, false},
		{65536, 65532, 0, 1, false},
		{65536, 65531, 65527, 1, true},
		{65536, 65531, 65528, 1, false},
		{65536, 0, 65532, 1, true},
		{65536, 0, 65533, 1, false},
	} {
		a := api.Area{Spare: c.spare, Base: c.base, Pages: c.pages}
		want := api.ErrArg
		if c.ok {
			want = api.OK
		}
		d := made(t, c.sectors, c.sectors)
		d.Arm(1)
		if err := pool.Mend(d, a); err != want {
			t.Errorf("Mend of %v on %d sectors: error %d", a, c.sectors, err)
		}
		for _, frames := range []int{1, 2, 63, 64} {
			if p, err := pool.New(d, logged(t), a, frames); err != want || (p != nil) != c.ok {
				t.Errorf("New of %v on %d sectors: error %d", a, c.sectors, err)
			}
		}
		for _, frames := range []int{0, -1, 65, 66, 1 << 32, 1<<32 + 1, -(1 << 32), 1<<16 + 1, 256, 257, most, least} {
			if p, err := pool.New(d, logged(t), a, frames); err != api.ErrArg || p != nil {
				t.Errorf("New of %v on %d sectors with %d frames: error %d", a, c.sectors, frames, err)
			}
		}
		// Ahead of what the device tells. New asks it for nothing.
		if c.ok {
			want = api.ErrDown
		}
		if err := pool.Mend(off(t, c.sectors), a); err != want {
			t.Errorf("Mend of %v on %d sectors without power: error %d, not %d", a, c.sectors, err, want)
		}
		if p, err := pool.New(off(t, c.sectors), logged(t), a, 1); (err == api.OK) != c.ok || (p != nil) != c.ok {
			t.Errorf("New of %v on %d sectors without power: error %d", a, c.sectors, err)
		}
	}
}

// The first page, the last one and some between are put on areas at the bounds.
func TestAreasAreAllUsed(t *testing.T) {
	for _, c := range []struct{ sectors, spare, base, pages int }{
		{9, 0, 5, 1}, {9, 4, 0, 1}, {13, 0, 5, 2}, {13, 8, 0, 2}, {65536, 0, 5, 16382}, {65536, 65531, 3, 16382}, {65536, 65531, 65527, 1},
	} {
		d, a := made(t, c.sectors, c.sectors), api.Area{Spare: c.spare, Base: c.base, Pages: c.pages}
		p, err := pool.New(d, logged(t), a, 2)
		if err != api.OK {
			t.Fatalf("New: error %d", err)
		}
		all := []int{0, c.pages - 1, c.pages / 2, c.pages / 3, min(255, c.pages-1), min(256, c.pages-1), min(8191, c.pages-1), min(8192, c.pages-1)}
		for i, n := range all {
			if err := p.Put(n, paper(n, i, 0)); err != api.OK {
				t.Fatalf("Put %d: error %d", n, err)
			}
		}
		if err := p.FlushAll(); err != api.OK {
			t.Fatalf("FlushAll: error %d", err)
		}
		for i, n := range all {
			last := i
			for k, other := range all {
				if other == n {
					last = k
				}
			}
			// The power goes at each operation; Mend finds the page whichever number it has.
			for at := 1; at < 30; at++ {
				d := d.Copy()
				p, _ := pool.New(d, logged(t), a, 1)
				p.Put(n, paper(n, 99, 0))
				d.Arm(at)
				p.Flush(n)
				d.Crash([]byte{2, 3, 1, 0})
				if err := pool.Mend(d, a); err != api.OK {
					t.Fatalf("Mend: error %d", err)
				}
				x, err := page.Read(d, a.Base, n)
				if err != api.OK || !same(x, paper(n, last, 0)) && !same(x, paper(n, 99, 0)) {
					t.Fatalf("the page %d of %v is %s, error %d", n, a, tell(x), err)
				}
			}
		}
	}
}

// Mend of an area whose sectors were never written does nothing.
func TestMendOfNothing(t *testing.T) {
	for _, at := range append(layouts(1), layouts(5)...) {
		d := made(t, at.sectors, at.sectors)
		d.Arm(1)
		for range 3 {
			if err := pool.Mend(d, at.a); err != api.OK {
				t.Fatalf("Mend: error %d", err)
			}
		}
		if d.Used() != 0 || len(d.Waits()) != 0 {
			t.Errorf("Mend has written %d sectors", d.Used())
		}
		// On a device that has no room, too.
		if err := pool.Mend(made(t, at.sectors, 0), at.a); err != api.OK {
			t.Errorf("Mend on a device without room: error %d", err)
		}
	}
}

// sectors is the bytes of all of a device's.
func sectors(t testing.TB, d *disk.Disk) []byte {
	t.Helper()
	var s []byte
	for i := range d.Sectors() {
		b, err := d.Read(i)
		if err != api.OK {
			t.Fatalf("Read of the sector %d: error %d", i, err)
		}
		s = append(s, b...)
	}
	return s
}

// Mend changes no page of an area that is whole, whoever wrote it.
func TestMendOfWhatIsWhole(t *testing.T) {
	for _, at := range layouts(5) {
		g := rigged(t, at, 2)
		for n := range 5 {
			g.puts(n)
			g.flush(n)
			for range 3 {
				g.mend()
				g.agrees()
			}
		}
		was := sectors(t, g.d)
		g.mend()
		if !bytes.Equal(was, sectors(t, g.d)) {
			t.Error("Mend has changed a sector of an area that is whole")
		}
		// Somebody else writes there; what the pool put back is gone.
		for n := range 5 {
			x := paper(n, 700+n, 0)
			g.gives("page.Write", page.Write(g.d, at.a.Base, n, x), api.OK)
			g.m.back[n] = x
		}
		g.gives("Sync", g.d.Sync(), api.OK)
		g.mend()
		g.anew()
		g.crash(nil, nil)
		g.on()
	}
}

// Whatever stood in the spare sectors ahead of all, no page is changed by Mend,
// and a page is put back so that it is found.
func TestSpareSectorsThatWereWritten(t *testing.T) {
	t.Parallel()
	r := rand.New(rand.NewSource(1))
	one := make([]byte, 128)
	r.Read(one)
	for name, fill := range map[string]func(b []byte){
		"noughts":                 func(b []byte) {},
		"ones":                    func(b []byte) { copy(b, bytes.Repeat([]byte{255}, 128)) },
		"1":                       func(b []byte) { copy(b, bytes.Repeat([]byte{1}, 128)) },
		"drawn bytes":             func(b []byte) { r.Read(b) },
		"the same in each sector": func(b []byte) { copy(b, one) },
		"the same in each half": func(b []byte) {
			copy(b, one[:64])
			copy(b[64:], one[:64])
		},
	} {
		for _, at := range layouts(3) {
			g := rigged(t, at, 2)
			for i := range 5 {
				b := make([]byte, 128)
				fill(b)
				g.gives("Write", g.d.Write(at.a.Spare+i, b), api.OK)
			}
			g.gives("Sync", g.d.Sync(), api.OK)
			g.did("spare sectors of %s", name)
			g.mend()
			g.agrees()
			g.puts(0)
			g.flush(0)
			cut(t, g, flushing(1), (*rig).on)
		}
	}
}

// A page of whose sectors the device had others ahead of all is as it was there.
func TestPagesThatWereThere(t *testing.T) {
	g := small(t, 3, 2)
	for n := range 3 {
		x := paper(n, 50+n, uint64(1000*n))
		g.gives("page.Write", page.Write(g.d, g.at.a.Base, n, x), api.OK)
		g.m.back[n] = x
	}
	g.gives("Sync", g.d.Sync(), api.OK)
	g.anew()
	for n := range 3 {
		g.get(n)
	}
	g.crash(nil, nil)
	cut(t, g, flushing(1), (*rig).on)
}

// P11.2

func TestNumbersThatAreNoPages(t *testing.T) {
	for _, pages := range []int{1, 2, 5} {
		g := small(t, pages, 1)
		for _, full := range []bool{false, true} {
			if full {
				g.pin(0)
			}
			for _, n := range numbers(pages) {
				if n >= 0 && n < pages {
					continue
				}
				g.get(n)
				g.put(n, g.next(0, 0))
				g.pin(n)
				g.unpin(n)
				g.flush(n)
				if pins := g.p.Pins(n); pins != 0 {
					t.Errorf("Pins of %d: %d", n, pins)
				}
			}
			g.get(0)
			g.flush(pages - 1)
			if err := g.p.Flush(pages); err != api.ErrArg {
				t.Errorf("Flush of %d of %d pages: error %d", pages, pages, err)
			}
		}
		g.unpin(0)
		g.get(pages - 1)
		g.puts(pages - 1)
		g.flush(pages - 1)
		g.crash(nil, nil)
	}
}

func TestBodies(t *testing.T) {
	for _, pages := range []int{1, 3} {
		g := small(t, pages, 1)
		for _, full := range []bool{false, true} {
			for _, length := range []int{499, 500, 501, 0, 1, 512, 1000, 20000} {
				for _, n := range []int{0, -1, pages - 1, pages} {
					b := make([]byte, length, length+3)
					b[:length+1][length] = 9
					want := api.ErrArg
					if length == 500 {
						want = g.wants(n)
					}
					x := api.Paper{Lsn: 5, Body: b}
					err := g.p.Put(n, x)
					g.did("Put %d of %d bytes: %d", n, length, err)
					g.gives("Put", err, want)
					if b[:length+1][length] != 9 || len(b) > 0 && (b[0] != 0 || b[length-1] != 0) {
						g.fatal("Put has changed what was handed in")
					}
					if err != api.OK {
						g.alike()
						continue
					}
					g.m.now[n] = clone(x)
					g.m.dirty[n] = 5
					g.came(n)
				}
				if err := g.p.Put(0, api.Paper{}); err != api.ErrArg {
					g.fatal("Put of no body: error %d", err)
				}
			}
			g.flushAll()
			if full {
				break
			}
			g.pin(0)
		}
	}
}

func TestGet(t *testing.T) {
	for _, frames := range []int{1, 2, 3} {
		g := small(t, 5, frames)
		g.get(0) // never put: blank
		g.get(4)
		g.puts(0)
		g.get(0) // in memory
		for n := 1; n < 5; n++ {
			g.puts(n) // 0 is given up
		}
		for n := range 5 {
			g.get(n)
		}
		g.flushAll()
		g.puts(2)
		g.get(2)
		g.flush(2)
		g.puts(2) // put, put back, and put again
		g.get(2)
		g.puts(2)
		for n := range 5 {
			g.get(n)
			g.get(n)
		}
		g.get(2)
		g.flushAll()
		g.anew()
		for n := range 5 {
			g.get(4 - n)
		}
	}
}

// What is answered may be written over, and so may what was handed in.
func TestMemoryOfItsOwn(t *testing.T) {
	g := small(t, 3, 2)
	over := func(b []byte) {
		for i := range b[:cap(b)] {
			b[:cap(b)][i] ^= 255
		}
	}
	for n := range 3 {
		for range 3 {
			x, err := g.p.Get(n)
			g.gives("Get", err, api.OK)
			over(x.Body)
			g.m.held = g.p.Held()
			g.agrees()
			g.get(n)
		}
		x := g.next(n, g.append())
		was := clone(x)
		g.gives("Put", g.p.Put(n, x), api.OK)
		over(x.Body)
		g.m.now[n], g.m.dirty[n] = was, x.Lsn
		g.agrees()
		g.get(n)
		y, err := g.p.Get(n)
		g.gives("Get", err, api.OK)
		over(y.Body)
		g.get(n)
		g.flush(n)
		g.get(n)
	}
	for range 2 {
		g.puts(2)
		for _, l := range [][]int{g.p.Held(), g.p.Held()} {
			for i := range l[:cap(l)] {
				l[:cap(l)][i] = 77
			}
		}
		for _, l := range [][]api.Dirt{g.p.Dirty(), g.p.Dirty()} {
			for i := range l[:cap(l)] {
				l[:cap(l)][i] = api.Dirt{Page: 77, Lsn: 77}
			}
		}
		g.alike()
	}
	// Room behind a body is not written.
	b := append(make([]byte, 500), 1, 2, 3)
	g.gives("Put", g.p.Put(2, api.Paper{Body: b[:500]}), api.OK)
	g.gives("Flush", g.p.Flush(2), api.OK)
	if !bytes.Equal(b[500:], []byte{1, 2, 3}) {
		t.Errorf("room behind a body is %v", b[500:])
	}
}

func TestBusy(t *testing.T) {
	for _, frames := range []int{1, 2, 3, 64} {
		g := small(t, frames+2, frames)
		for n := range frames {
			if n > 0 {
				g.get(frames) // as long as one is not pinned
				g.puts(frames + 1)
			}
			g.pin(n)
		}
		for n := range frames {
			g.get(n)
			g.puts(n)
			g.pin(n)
			g.unpin(n)
		}
		for range 2 {
			for _, n := range []int{frames, frames + 1} {
				if g.get(n) != api.ErrBusy || g.puts(n) != api.ErrBusy || g.pin(n) != api.ErrBusy {
					t.Fatal("not ErrBusy")
				}
				if g.unpin(n) != api.ErrNone || g.flush(n) != api.OK {
					t.Fatal("Unpin, Flush")
				}
			}
			g.flushAll() // it is busy with clean pages, too
		}
		for n := range frames {
			g.unpin(n)
			g.get(frames)
			g.puts(frames + 1)
			g.get(n)
			g.pin(n)
		}
		g.get(frames)
	}
}

// Which errors are told first: of a number and a body, of frames, of the device.
func TestWhichErrorIsFirst(t *testing.T) {
	g := small(t, 4, 1)
	g.pin(0)
	g.d.Write(g.at.a.Base+4*2+1, bytes.Repeat([]byte{7}, 128)) // the page 2 is damaged
	g.d.Arm(1)
	g.gives("Sync", g.d.Sync(), api.ErrDown)
	for _, n := range []int{1, 2, 3} {
		_, err := g.p.Get(n)
		g.gives("Get", err, api.ErrBusy)
		g.gives("Pin", g.p.Pin(n), api.ErrBusy)
		g.gives("Put", g.p.Put(n, page.Blank()), api.ErrBusy)
		g.gives("Put", g.p.Put(n, api.Paper{Body: make([]byte, 499)}), api.ErrArg)
	}
	_, err := g.p.Get(4)
	g.gives("Get", err, api.ErrArg)
	g.gives("Pin", g.p.Pin(4), api.ErrArg)
	g.gives("Put", g.p.Put(4, page.Blank()), api.ErrArg)
	g.gives("Put", g.p.Put(-1, api.Paper{}), api.ErrArg)
	g.gives("Flush", g.p.Flush(4), api.ErrArg)
	// A page in memory is got, and put, without the device.
	_, err = g.p.Get(0)
	g.gives("Get", err, api.OK)
	g.gives("Pin", g.p.Pin(0), api.OK)
	g.gives("Flush of a clean page", g.p.Flush(0), api.OK)
	g.gives("Flush of a page that is not in memory", g.p.Flush(3), api.OK)
	g.gives("FlushAll with none dirty", g.p.FlushAll(), api.OK)
	g.gives("Put", g.p.Put(0, page.Blank()), api.OK)
	g.gives("Flush", g.p.Flush(0), api.ErrDown)
	g.gives("FlushAll", g.p.FlushAll(), api.ErrDown)
	if !slices.Equal(g.p.Dirty(), []api.Dirt{{}}) || !slices.Equal(g.p.Held(), []int{0}) || g.p.Pins(0) != 2 {
		t.Errorf("dirty %v, held %v, pinned %d times", g.p.Dirty(), g.p.Held(), g.p.Pins(0))
	}
	g.gives("Unpin", g.p.Unpin(0), api.OK)
	g.gives("Unpin", g.p.Unpin(0), api.OK)
	_, err = g.p.Get(1)
	g.gives("Get", err, api.ErrDown)
	g.gives("Pin", g.p.Pin(1), api.ErrDown)
	g.gives("Put", g.p.Put(1, page.Blank()), api.ErrDown)
	if !slices.Equal(g.p.Dirty(), []api.Dirt{{}}) || !slices.Equal(g.p.Held(), []int{0}) || g.p.Pins(0) != 0 || g.p.Pins(1) != 0 {
		t.Errorf("dirty %v, held %v, pinned %d, %d times", g.p.Dirty(), g.p.Held(), g.p.Pins(0), g.p.Pins(1))
	}
}

// Without power pages come into frames that are not taken by Put alone, which reads nothing.
func TestPutReadsNothing(t *testing.T) {
	g := small(t, 4, 2)
	g.d.Arm(1)
	g.d.Sync()
	_, err := g.p.Get(1)
	g.gives("Get", err, api.ErrDown)
	g.gives("Pin", g.p.Pin(1), api.ErrDown)
	if len(g.p.Held()) != 0 {
		t.Errorf("held are %v", g.p.Held())
	}
	x := paper(1, 5, 60)
	g.gives("Put", g.p.Put(1, x), api.OK)
	y, err := g.p.Get(1)
	g.gives("Get", err, api.OK)
	if !same(x, y) {
		t.Errorf("Get: %s", tell(y))
	}
	g.gives("Put", g.p.Put(3, x), api.OK)
	g.gives("Pin", g.p.Pin(3), api.OK)
	if !slices.Equal(g.p.Dirty(), []api.Dirt{{Page: 1, Lsn: 60}, {Page: 3, Lsn: 60}}) {
		t.Errorf("dirty are %v", g.p.Dirty())
	}
}

// A page that is damaged on the device is not got, and nothing is given up for it; but it is put.
func TestDamagedPages(t *testing.T) {
	for _, frames := range []int{1, 2, 4} {
		g := small(t, 5, frames)
		for range 2 {
			for n := range 2 {
				g.puts(n)
			}
			for n := 2; n < 4; n++ {
				g.gives("Write", g.d.Write(g.at.a.Base+4*n+2, bytes.Repeat([]byte{7}, 128)), api.OK)
				g.gives("Sync", g.d.Sync(), api.OK)
				held, dirty := g.p.Held(), g.p.Dirty()
				for range 3 {
					x, err := g.p.Get(n)
					g.gives("Get of a damaged page", err, api.ErrDamaged)
					if !nothing(x) {
						g.fatal("%s beside an error", tell(x))
					}
					g.gives("Pin of a damaged page", g.p.Pin(n), api.ErrDamaged)
					g.gives("Flush of a damaged page", g.p.Flush(n), api.OK)
					g.gives("Unpin of a damaged page", g.p.Unpin(n), api.ErrNone)
				}
				if !slices.Equal(held, g.p.Held()) || !slices.Equal(dirty, g.p.Dirty()) || g.p.Pins(n) != 0 {
					g.fatal("held are %v, dirty %v, behind %v, %v", g.p.Held(), g.p.Dirty(), held, dirty)
				}
				g.gives("Mend", pool.Mend(g.d, g.at.a), api.OK)
				_, err := g.p.Get(n)
				g.gives("Get of a damaged page, behind Mend", err, api.ErrDamaged)
				// Of the page itself the model knows no more till it is put back.
				x := g.next(n, g.append())
				g.gives("Put of a damaged page", g.p.Put(n, x), api.OK)
				y, err := g.p.Get(n)
				if err != api.OK || !same(x, y) {
					g.fatal("Get of a page that was damaged: %s, error %d", tell(y), err)
				}
				g.gives("Flush", g.p.Flush(n), api.OK)
				g.m.now[n], g.m.back[n] = x, x
				g.given()
				g.agrees()
			}
			g.flushAll()
			g.crash(nil, nil)
		}
	}
}

// P11.3

func TestPins(t *testing.T) {
	for _, frames := range []int{1, 2, 3, 64} {
		g := small(t, 70, frames)
		for _, times := range []int{1, 2, 5} {
			for n := range frames {
				for k := range times {
					g.pin(n)
					if pins := g.p.Pins(n); pins != k+1 {
						t.Fatalf("%d pins, not %d", pins, k+1)
					}
				}
				g.get(65)
				if n%2 == 0 {
					g.puts(n)
				}
			}
			for n := range frames {
				for k := times; k > 0; k-- {
					g.unpin(n)
					if pins := g.p.Pins(n); pins != k-1 {
						t.Fatalf("%d pins, not %d", pins, k-1)
					}
				}
				for range 3 {
					if err := g.unpin(n); err != api.ErrNone {
						t.Fatalf("Unpin: error %d", err)
					}
				}
				g.get(66)
				g.get(n)
			}
			if g.unpin(69) != api.ErrNone || g.p.Pins(69) != 0 {
				t.Fatal("a page that was never held is pinned")
			}
		}
		for range 70000 {
			g.gives("Pin", g.p.Pin(3), api.OK)
		}
		if pins := g.p.Pins(3); pins != 70000 {
			t.Errorf("%d pins, not 70000", pins)
		}
	}
}

// A pinned page stays in memory, whatever else is asked: it is got without the device.
func TestPinnedPagesStay(t *testing.T) {
	r := rand.New(rand.NewSource(2))
	for _, frames := range []int{1, 2, 5, 64} {
		for pinned := 1; pinned <= frames && pinned <= 7; pinned++ {
			g := small(t, frames+8, frames)
			for k := range pinned {
				g.pin(2 * k)
				if k%2 == 0 {
					g.puts(2 * k)
				}
			}
			for range 150 {
				n := r.Intn(frames + 8)
				switch r.Intn(5) {
				case 0:
					g.get(n)
				case 1:
					g.puts(n)
				case 2:
					if g.pin(n) == api.OK {
						g.unpin(n)
					}
				case 3:
					g.flush(n)
				case 4:
					g.flushAll()
				}
				for k := range pinned {
					if !slices.Contains(g.p.Held(), 2*k) {
						g.fatal("the page %d, which is pinned, is not in memory", 2*k)
					}
				}
			}
			g.d.Arm(1)
			g.d.Sync()
			for k := range pinned {
				if x, err := g.p.Get(2 * k); err != api.OK || !same(x, g.m.now[2*k]) {
					g.fatal("Get of a pinned page without power: %s, error %d", tell(x), err)
				}
			}
		}
	}
}

// P11.4

func TestHeldAndDirty(t *testing.T) {
	g := small(t, 9, 5)
	for _, n := range []int{7, 2, 8, 0} {
		g.puts(n)
		g.get(n)
	}
	g.get(4)
	if held := g.p.Held(); !slices.Equal(held, []int{0, 2, 4, 7, 8}) {
		t.Errorf("held are %v", held)
	}
	first := g.p.Dirty()
	if len(first) != 4 || first[0].Page != 0 || first[1].Page != 2 || first[2].Page != 7 || first[3].Page != 8 {
		t.Errorf("dirty are %v", first)
	}
	// A later Lsn, and an earlier one: the first one stays.
	g.puts(2)
	g.put(7, g.next(7, 3))
	g.put(8, g.next(8, 0))
	if dirty := g.p.Dirty(); !slices.Equal(dirty, first) {
		t.Errorf("dirty are %v, not %v", dirty, first)
	}
	// Put back, and dirty anew: its first Lsn is another one, which may be 0.
	g.flush(2)
	g.flush(7)
	g.puts(2)
	g.put(7, g.next(7, 0))
	g.puts(7)
	lsn := g.m.now[2].Lsn
	want := []api.Dirt{first[0], {Page: 2, Lsn: lsn}, {Page: 7, Lsn: 0}, first[3]}
	if dirty := g.p.Dirty(); !slices.Equal(dirty, want) {
		t.Errorf("dirty are %v, not %v", dirty, want)
	}
	g.put(4, g.next(4, 1<<64-1))
	if dirty := g.p.Dirty(); len(dirty) != 5 || dirty[2] != (api.Dirt{Page: 4, Lsn: 1<<64 - 1}) {
		t.Errorf("dirty are %v", dirty)
	}
	// What is put is dirty, if it is just what was there, too.
	g.flushAll()
	g.put(4, clone(g.m.now[4]))
	if dirty := g.p.Dirty(); len(dirty) != 1 {
		t.Errorf("dirty are %v", dirty)
	}
	// Given up, and read again, it is clean.
	for n := range 9 {
		g.get(n)
	}
	for n := range 9 {
		g.get(n)
	}
	if dirty := g.p.Dirty(); len(dirty) != 0 {
		t.Errorf("dirty are %v", dirty)
	}
}

func TestFlush(t *testing.T) {
	g := small(t, 5, 3)
	if g.flush(2) != api.OK || len(g.p.Held()) != 0 {
		t.Errorf("behind Flush of a page that is not in memory held are %v", g.p.Held())
	}
	g.get(2)
	g.flush(2)
	g.puts(2)
	g.puts(1)
	g.flush(2)
	if held, dirty := g.p.Held(), g.p.Dirty(); !slices.Equal(held, []int{1, 2}) || len(dirty) != 1 || dirty[0].Page != 1 {
		t.Errorf("behind Flush held are %v, dirty %v", held, dirty)
	}
	g.flush(2)
	g.pin(1)
	g.flush(1)
	g.get(2)
	g.get(1)
	if g.p.Pins(1) != 1 {
		t.Error("Flush has unpinned a page")
	}
	g.crash(nil, nil)
	g.get(2)
	g.get(1)
}

// FlushAll with none dirty, one, some, and all.
func TestFlushAll(t *testing.T) {
	for _, frames := range []int{1, 2, 5, 64} {
		g := small(t, frames, frames)
		for dirty := range 1 << min(frames, 5) {
			for n := range frames {
				g.get(n)
			}
			for n := range frames {
				if dirty>>(n%5)&1 == 1 {
					g.puts(n)
				}
			}
			g.flushAll()
			g.flushAll()
			if held := g.p.Held(); len(held) != frames || len(g.p.Dirty()) != 0 {
				t.Fatalf("held are %v, dirty %v", held, g.p.Dirty())
			}
		}
		g.crash(nil, nil)
	}
}

// parted is a pool whose log is on a device of its own: that may fail, where the pool's does not.
func parted(t testing.TB, pages, most, frames int) (*rig, *disk.Disk) {
	t.Helper()
	ld := made(t, 18, 18)
	l, err := wal.Make(ld, 0, ring)
	if err != api.OK {
		t.Fatalf("wal.Make: error %d", err)
	}
	at := layout{5 + 4*pages, 5 + 4*pages, api.Area{Spare: 0, Base: 5, Pages: pages}}
	g := rigged(t, layouts(pages)[1], frames)
	g.at, g.d, g.l = at, made(t, at.sectors, most), l
	g.anew()
	return g, ld
}

// The first error ends FlushAll: pages ahead of it are put back, it and those behind it are not.
func TestFlushAllWithAnErrorInItsMidst(t *testing.T) {
	for bad := range 5 {
		g, ld := parted(t, 5, 25, 5)
		early := g.append()
		g.gives("log's Flush", g.l.Flush(), api.OK)
		late := g.append()
		for n := range 5 {
			lsn := early
			if n == bad || n == bad+2 {
				lsn = late
			}
			g.put(n, g.next(n, lsn))
		}
		ld.Arm(1)
		ld.Sync()
		for range 2 {
			g.gives("FlushAll", g.p.FlushAll(), api.ErrDown)
			for n := range bad {
				g.m.putBack(n)
			}
			g.alike()
		}
		for n := range 5 {
			if n == bad || n == bad+2 {
				g.gives("Flush", g.p.Flush(n), api.ErrDown)
				g.alike()
				continue
			}
			g.flush(n)
		}
		// Nothing of it is on the pool's device, whatever becomes of what waits.
		g.gives("Crash", g.d.Crash([]byte{1, 1, 1, 1, 1, 1, 1, 1, 1, 1}), api.OK)
		g.mend()
		g.onDevice()
	}
}

// P11.4, P11.5: the rule

// Of a page that is put back the log lasts beyond its Lsn, and no more of it is flushed than must be.
func TestTheRule(t *testing.T) {
	const flush, giveUp, all = 0, 1, 2
	for way := range 3 {
		for _, lsns := range []int{0, 1, 2, 3, 4} {
			g := small(t, 4, 1)
			var places []uint64
			for range 3 {
				places = append(places, g.append())
			}
			g.gives("log's Flush", g.l.Flush(), api.OK)
			flushed := g.l.Flushed()
			places = append(places, g.append(), g.append())
			if places[3] != flushed {
				t.Fatalf("a record at %d, flushed up to %d", places[3], flushed)
			}
			g.put(1, g.next(1, places[lsns]))
			if g.l.Flushed() != flushed {
				t.Fatal("Put has flushed the log")
			}
			switch way {
			case flush:
				g.flush(1)
			case giveUp:
				g.get(2)
			case all:
				g.flushAll()
			}
			if lsns < 3 && g.l.Flushed() != flushed || lsns >= 3 && g.l.Flushed() != g.l.End() {
				t.Errorf("the log is flushed up to %d, with the Lsn %d", g.l.Flushed(), places[lsns])
			}
			if len(g.p.Dirty()) != 0 {
				t.Errorf("dirty are %v", g.p.Dirty())
			}
			g.crash(nil, nil)
			x, err := g.p.Get(1)
			if err != api.OK || x.Lsn != places[lsns] {
				t.Errorf("Get: %s, error %d", tell(x), err)
			}
			if _, _, err := g.l.Read(places[lsns]); err != api.OK {
				t.Errorf("the record of the page at %d is lost: error %d", places[lsns], err)
			}
		}
	}
}

// It is the Lsn with which a page was put last that counts.
func TestTheRuleOfThePageAsItIs(t *testing.T) {
	g := small(t, 4, 2)
	early := g.append()
	g.gives("log's Flush", g.l.Flush(), api.OK)
	late := g.append()
	g.put(1, g.next(1, early))
	g.put(1, g.next(1, late))
	g.flush(1)
	if g.l.Flushed() != g.l.End() {
		t.Error("the page's last Lsn is not flushed")
	}
	flushed := g.l.Flushed()
	late = g.append()
	g.put(1, g.next(1, late))
	g.put(1, g.next(1, early))
	g.flush(1)
	if g.l.Flushed() != flushed {
		t.Error("an Lsn that the page no longer has is flushed")
	}
}

// An Lsn that is no record's is no reason to keep a page: what there is of the log is flushed.
func TestLsnsOfNoRecord(t *testing.T) {
	for _, lsn := range []uint64{0, 1, 51, 53, 78, 79, 80, 1 << 40, 1<<63 - 1, 1 << 63, 1<<64 - 1} {
		g := small(t, 4, 1)
		g.append()
		g.put(1, g.next(1, lsn))
		g.flush(1)
		if lsn >= 52 && g.l.Flushed() != 79 {
			t.Errorf("flushed up to %d, with the Lsn %d", g.l.Flushed(), lsn)
		}
		g.append()
		g.put(1, g.next(1, lsn))
		g.get(2)
		g.get(1)
		g.crash(nil, nil)
		g.get(1)
	}
}

// A pool over the device gets each page as it was put back last, whatever another one has in memory.
func TestAnotherPool(t *testing.T) {
	r := rand.New(rand.NewSource(3))
	for _, at := range layouts(6) {
		g := rigged(t, at, 3)
		for range 200 {
			n := r.Intn(6)
			switch r.Intn(4) {
			case 0:
				g.get(n)
			case 1:
				g.flush(n)
			default:
				g.puts(n)
			}
			h := &rig{t: t, d: g.d, l: g.l, at: at, frames: 1 + r.Intn(6), m: g.m.copy(), past: slices.Clone(g.past)}
			h.anew()
			for n := range 6 {
				h.get(n)
			}
			g.past = g.past[max(0, len(g.past)-30):]
		}
	}
}

// A device that has room for few sectors: a page that it refuses is as it was,
// there and in memory, now and behind a crash, and so are all others.
func TestDeviceWithoutRoom(t *testing.T) {
	const pages = 4
	for most := range 5 + 4*pages + 1 {
		for _, order := range [][]int{{0, 1, 2, 3}, {3, 1, 0, 2}, {2, 2, 1, 2, 3, 2}, {1, 0, 1, 3}} {
			g, _ := parted(t, pages, most, pages)
			var fit []int // the pages for which there is room
			for _, n := range order {
				g.puts(n)
				if !slices.Contains(fit, n) && 5+4*(len(fit)+1) <= most {
					fit = append(fit, n)
				}
				want := api.ErrFull
				if slices.Contains(fit, n) {
					want = api.OK
					g.m.putBack(n)
				}
				err := g.p.Flush(n)
				g.did("Flush %d: %d", n, err)
				g.gives("Flush", err, want)
				g.alike()
			}
			for _, picks := range patterns(len(g.d.Waits())) {
				h := g.copy()
				h.gives("Crash", h.d.Crash(picks), api.OK)
				h.mend()
				h.mend()
				h.onDevice()
			}
			want := api.OK
			if len(g.p.Dirty()) > 0 {
				want = api.ErrFull
			}
			g.gives("FlushAll", g.p.FlushAll(), want)
		}
	}
}

// A page that cannot be put back is not given up.
func TestGivingUpWithoutRoom(t *testing.T) {
	for most := range 9 {
		g, _ := parted(t, 4, most, 1)
		g.puts(0)
		for range 3 {
			for n := 1; n < 4; n++ {
				x, err := g.p.Get(n)
				g.gives("Get", err, api.ErrFull)
				if !nothing(x) {
					g.fatal("%s beside an error", tell(x))
				}
				g.gives("Put", g.p.Put(n, paper(n, 99, 0)), api.ErrFull)
				g.gives("Pin", g.p.Pin(n), api.ErrFull)
				g.alike()
			}
			g.get(0)
			g.puts(0)
		}
	}
	g, _ := parted(t, 4, 9, 1)
	g.puts(0)
	g.get(1)
	g.get(0)
	g.puts(1)
	_, err := g.p.Get(0)
	g.gives("Get", err, api.ErrFull)
	g.alike()
}

// The log tells an error where a page is given up: it stays.
func TestGivingUpWithoutALog(t *testing.T) {
	g, ld := parted(t, 4, 21, 1)
	g.puts(0)
	ld.Arm(1)
	for range 3 {
		_, err := g.p.Get(1)
		g.gives("Get", err, api.ErrDown)
		g.gives("Put", g.p.Put(1, paper(1, 9, 0)), api.ErrDown)
		g.gives("Pin", g.p.Pin(1), api.ErrDown)
		g.gives("Flush", g.p.Flush(0), api.ErrDown)
		g.gives("FlushAll", g.p.FlushAll(), api.ErrDown)
		g.alike()
	}
	if g.d.Used() != 0 {
		t.Errorf("%d sectors are written", g.d.Used())
	}
	g.get(0)
	g.put(0, g.next(0, 0))
	g.get(1)
}

// P11.1 to P11.4: of no pool

func TestNoPool(t *testing.T) {
	for _, p := range []*pool.Pool{nil, {}} {
		for _, n := range append(numbers(3), 0, 1, 2) {
			if x, err := p.Get(n); !nothing(x) || err != api.ErrNil {
				t.Errorf("Get %d: error %d", n, err)
			}
			for _, x := range []api.Paper{{}, page.Blank(), paper(1, 2, 3), {Lsn: 1, Body: make([]byte, 501)}} {
				if err := p.Put(n, x); err != api.ErrNil {
					t.Errorf("Put %d: error %d", n, err)
				}
			}
			for name, call := range map[string]func(n int) api.Errno{"Pin": p.Pin, "Unpin": p.Unpin, "Flush": p.Flush} {
				if err := call(n); err != api.ErrNil {
					t.Errorf("%s %d: error %d", name, n, err)
				}
			}
			if pins := p.Pins(n); pins != 0 {
				t.Errorf("Pins %d: %d", n, pins)
			}
		}
		if err := p.FlushAll(); err != api.ErrNil {
			t.Errorf("FlushAll: error %d", err)
		}
		if len(p.Dirty()) != 0 || len(p.Held()) != 0 {
			t.Errorf("dirty %v, held %v", p.Dirty(), p.Held())
		}
	}
}

// The chapter's examples

func TestExamples(t *testing.T) {
	p, err := pool.New(made(t, 29, 29), logged(t), api.Area{Spare: 0, Base: 5, Pages: 6}, 2)
	if err != api.OK {
		t.Fatalf("New: error %d", err)
	}
	if a, b := p.Pin(0), p.Pin(1); a != api.OK || b != api.OK {
		t.Fatalf("Pin 0, Pin 1: errors %d, %d", a, b)
	}
	if x, err := p.Get(2); err != api.ErrBusy || !nothing(x) {
		t.Errorf("Get 2: error %d", err)
	}
	if err := p.Unpin(0); err != api.OK {
		t.Errorf("Unpin 0: error %d", err)
	}
	if x, err := p.Get(2); err != api.OK || !same(x, page.Blank()) {
		t.Errorf("Get 2: %s, error %d", tell(x), err)
	}
	if held := p.Held(); !slices.Equal(held, []int{1, 2}) {
		t.Errorf("Held: %v", held)
	}
	if err := p.Put(3, paper(3, 1, 79)); err != api.OK {
		t.Errorf("Put 3: error %d", err)
	}
	if dirty := p.Dirty(); !slices.Equal(dirty, []api.Dirt{{Page: 3, Lsn: 79}}) {
		t.Errorf("Dirty: %v", dirty)
	}
	if err := p.Unpin(5); err != api.ErrNone {
		t.Errorf("Unpin 5: error %d", err)
	}
}

// P1

// Two pools on two devices know nothing of each other.
func TestTwoPools(t *testing.T) {
	a, b := small(t, 6, 3), small(t, 6, 2)
	r := rand.New(rand.NewSource(4))
	for i := range 400 {
		g := a
		if r.Intn(2) == 0 {
			g = b
		}
		act(r, g)
		a.agrees()
		b.agrees()
		if i%100 == 99 {
			b.crash(nil, nil)
			a.agrees()
		}
	}
}

// Halves of any two of the tests' pages have the right sum together.
func TestNoSumTellsPagesApart(t *testing.T) {
	r := rand.New(rand.NewSource(5))
	for range 300 {
		n, odd := r.Intn(50), r.Intn(2)
		var forms [][]byte
		for range 3 {
			b, err := page.Bytes(paper(2*n+odd, r.Intn(1<<16), r.Uint64()))
			if err != api.OK {
				t.Fatalf("Bytes: error %d", err)
			}
			forms = append(forms, b)
			n = r.Intn(50)
		}
		var b []byte
		for half := range 8 {
			b = append(b, forms[r.Intn(3)][half*64:half*64+64]...)
		}
		if _, err := page.Open(b); err != api.OK {
			t.Fatalf("halves of three pages: error %d", err)
		}
	}
}
