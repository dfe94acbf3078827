package wal_test

import (
	"bytes"
	"fmt"
	"math"
	"math/rand"
	"slices"
	"sync"
	"testing"

	"vicinage/api"
	"vicinage/disk"
	"vicinage/logrec"
	"vicinage/page"
	"vicinage/wal"
)

// opener is Make or Open.
type opener struct {
	name string
	call func(d *disk.Disk, at, count int) (*wal.Log, api.Errno)
}

func openers() []opener { return []opener{{"Make", wal.Make}, {"Open", wal.Open}} }

// P10.1

func TestNoDevice(t *testing.T) {
	for _, o := range openers() {
		for _, d := range []*disk.Disk{nil, {}} {
			for _, c := range [][2]int{{0, 16}, {0, 0}, {-1, 16}, {0, 8193}, {math.MaxInt, math.MaxInt}, {math.MinInt, math.MinInt}} {
				if l, err := o.call(d, c[0], c[1]); l != nil || err != api.ErrNil {
					t.Errorf("%s(%d, %d) without a device: %v, error %d", o.name, c[0], c[1], l != nil, err)
				}
			}
		}
	}
}

func TestPlacesAndCounts(t *testing.T) {
	for _, c := range []struct {
		sectors, at, count int
		ok                 bool
	}{
		{18, 0, 16, true},
		{18, 1, 16, false},
		{18, -1, 16, false},
		{18, 0, 17, false},
		{17, 0, 16, false},
		{19, 1, 16, true},
		{19, 0, 17, true},
		{19, 2, 16, false},
		{17, 0, 15, false},
		{40, 0, 15, false},
		{40, 0, 1, false},
		{40, 0, 0, false},
		{40, 0, -1, false},
		{40, 0, -16, false},
		{40, 40, -2, false},
		{40, 22, 16, true},
		{40, 23, 16, false},
		{40, 39, 16, false},
		{40, 40, 16, false},
		{40, 0, 38, true},
		{40, 0, 39, false},
		{65536, 0, 8191, true},
		{65536, 0, 8192, true},
		{65536, 0, 8193, false},
		{65536, 57342, 8192, true},
		{65536, 57343, 8192, false},
		{65536, 65518, 16, true},
		{65536, 65519, 16, false},
		{65536, 0, 65534, false},
		{8194, 0, 8192, true},
		{8193, 0, 8192, false},
		{40, 0, math.MaxInt, false},
		{40, 0, math.MinInt, false},
		{40, math.MaxInt, 16, false},
		{40, math.MinInt, 16, false},
		{40, math.MaxInt, math.MaxInt, false},
		{40, math.MinInt, math.MinInt, false},
		{40, math.MaxInt, math.MinInt, false},
		{40, math.MinInt, math.MaxInt, false},
		{40, math.MaxInt - 1, 16, false},
		{40, math.MaxInt - 15, 16, false},
		{40, math.MaxInt - 16, 16, false},
		{40, math.MaxInt - 17, 16, false},
		{40, math.MaxInt - 18, 16, false},
		{40, math.MaxInt - 8191, 8192, false},
		{40, 1 << 32, 16, false},
		{40, 0, 1<<32 + 16, false},
		{40, 1 << 16, 16, false},
		{40, -(1 << 32), 16, false},
	} {
		for _, o := range openers() {
			d := made(t, c.sectors, c.sectors)
			if o.name == "Open" && c.ok {
				wal.Make(d, c.at, c.count)
			}
			l, err := o.call(d, c.at, c.count)
			if c.ok && (l == nil || err != api.OK) || !c.ok && (l != nil || err != api.ErrArg) {
				t.Errorf("%s(%d, %d) on %d sectors: %v, error %d", o.name, c.at, c.count, c.sectors, l != nil, err)
			}
			if !c.ok && (d.Used() != 0 || len(d.Waits()) > 0) {
				t.Errorf("%s(%d, %d) on %d sectors, refused, has written", o.name, c.at, c.count, c.sectors)
			}
			// Ahead of what the device tells.
			d = made(t, c.sectors, c.sectors)
			d.Arm(1)
			d.Sync()
			want := api.ErrArg
			if c.ok {
				want = api.ErrDown
			}
			if l, err := o.call(d, c.at, c.count); l != nil || err != want {
				t.Errorf("%s(%d, %d) on %d sectors without power: %v, error %d, not %d", o.name, c.at, c.count, c.sectors, l != nil, err, want)
			}
		}
	}
}

// Rings of the least and of the greatest count are filled, and gone round.
func TestRingsOfEachSize(t *testing.T) {
	for _, count := range []int{16, 17, 31, 100, 8191, 8192} {
		g := rigged(t, count)
		size := 109
		if count > 100 {
			size = 1029
		}
		for g.m.end() < uint64(2*count*52+1100) {
			for g.m.left() >= size {
				g.adds(sized(t, size, g.m.end()))
			}
			g.flush()
			g.check()
			g.crash(1)
			h := g.m.recs[len(g.m.recs)-1]
			g.master(h.x.Lsn, h.x.Lsn)
			g.crash(0)
		}
	}
}

func TestEmptyLogLasts(t *testing.T) {
	for _, picks := range [][]byte{nil, {0, 0, 0}, {1, 1, 1}, {2, 2, 2}, {3, 3, 3}, {0, 1, 2, 3}} {
		g := rigged(t, 16)
		if g.l.Start() != 52 || g.l.End() != 52 || g.l.Flushed() != 52 || g.l.Point() != 0 || g.l.Epoch() != 1 || g.l.Left() != 1664 {
			t.Errorf("an empty log: Start %d, End %d, Flushed %d, Point %d, Epoch %d, Left %d", g.l.Start(), g.l.End(), g.l.Flushed(), g.l.Point(), g.l.Epoch(), g.l.Left())
		}
		if waits := g.d.Waits(); len(waits) > 0 {
			t.Errorf("behind Make the sectors %v wait", waits)
		}
		g.crash(picks...)
		g.everywhere()
		if g.l.Epoch() != 2 {
			t.Errorf("the epoch of a log that was opened once is %d", g.l.Epoch())
		}
	}
}

// Make writes within its own sectors alone, and on a device that has room for few no more than it must.
func TestMakeKeepsToItsSectors(t *testing.T) {
	d := made(t, 40, 40)
	for i := range 40 {
		d.Write(i, bytes.Repeat([]byte{byte(i + 1)}, 128))
	}
	d.Sync()
	l, err := wal.Make(d, 7, 20)
	if err != api.OK {
		t.Fatalf("Make: error %d", err)
	}
	for l.Left() >= 1029 {
		l.Append(write(1, text(500, 1), text(500, 2)))
	}
	if err := l.Flush(); err != api.OK {
		t.Fatalf("Flush: error %d", err)
	}
	for i := range 40 {
		b, err := d.Read(i)
		if (i < 7 || i >= 7+22) && (err != api.OK || !bytes.Equal(b, bytes.Repeat([]byte{byte(i + 1)}, 128))) {
			t.Errorf("the sector %d, which is none of the log's, is %x", i, b)
		}
	}
}

// Whatever stood on a device ahead of Make is no part of its log.
func TestMakeOnADeviceThatWasWritten(t *testing.T) {
	r := rand.New(rand.NewSource(1))
	for _, c := range []struct {
		name string
		fill func(b []byte)
	}{
		{"noughts", func(b []byte) {}},
		{"ones", func(b []byte) { copy(b, bytes.Repeat([]byte{255}, 128)) }},
		{"drawn bytes", func(b []byte) { r.Read(b) }},
		{"1 in each number", func(b []byte) {
			for i := range b {
				b[i] = byte(1 - min(1, i%4))
			}
		}},
	} {
		for _, synced := range []bool{true, false} {
			g := &rig{t: t, d: made(t, 25, 25), m: empty(3, 16)}
			for i := range 25 {
				b := make([]byte, 128)
				c.fill(b)
				g.d.Write(i, b)
			}
			if synced {
				g.d.Sync()
			}
			g.did("a device of %s", c.name)
			var err api.Errno
			g.l, err = wal.Make(g.d, 3, 16)
			g.gives("Make", err, api.OK)
			g.everywhere()
			g.crash(1)
			g.everywhere()
			g.adds(five()...)
			g.flush()
			g.crash(1)
			g.check()
		}
	}
}

// Make on a device that had a log: nothing of it is found, whether its sectors
// were damaged ahead, or not, and whatever is appended.
func TestMakeInPlaceOfALog(t *testing.T) {
	for _, rounds := range []int{1, 2, 5} {
		for _, damaged := range []bool{false, true} {
			for sizes := 27; sizes <= 60; sizes++ {
				if !canBe(sizes) {
					continue
				}
				g := rigged(t, 16)
				for range rounds {
					for g.m.left() >= sizes {
						g.adds(sized(t, sizes, 900))
					}
					g.flush()
					if rounds > 1 {
						g.master(g.m.end(), 0)
					}
				}
				if damaged {
					wreck(g, 0, bytes.Repeat([]byte{7}, 128))
					wreck(g, 1, make([]byte, 128))
				}
				l, err := wal.Make(g.d, g.m.at, g.m.count)
				g.gives("Make", err, api.OK)
				g.l, g.m = l, empty(g.m.at, g.m.count)
				g.did("Make anew")
				g.check()
				g.adds(sized(t, sizes, 7))
				g.flush()
				g.crash(1)
				g.adds(sized(t, sizes, 8))
				g.crash(1)
				g.flush()
				g.crash(1)
				if len(g.m.recs) != 1 {
					t.Fatalf("%d records, not 1", len(g.m.recs))
				}
			}
		}
	}
}

// wreck writes other bytes on one of both sectors ahead of the ring.
func wreck(g *rig, which int, b []byte) {
	g.t.Helper()
	g.gives("Write", g.d.Write(g.m.at+which, b), api.OK)
	g.gives("Sync", g.d.Sync(), api.OK)
}

func TestOpenOfNoLog(t *testing.T) {
	r := rand.New(rand.NewSource(2))
	for _, c := range []struct {
		name string
		fill func(i int, d *disk.Disk)
	}{
		{"never written", func(i int, d *disk.Disk) {}},
		{"noughts", func(i int, d *disk.Disk) { d.Write(i, make([]byte, 128)) }},
		{"ones", func(i int, d *disk.Disk) { d.Write(i, bytes.Repeat([]byte{255}, 128)) }},
		{"drawn", func(i int, d *disk.Disk) {
			b := make([]byte, 128)
			r.Read(b)
			d.Write(i, b)
		}},
		{"the same drawn", func(i int, d *disk.Disk) {
			b := make([]byte, 128)
			rand.New(rand.NewSource(5)).Read(b)
			d.Write(i, b)
		}},
		{"a record's form", func(i int, d *disk.Disk) {
			form, _ := logrec.Bytes(api.Rec{Kind: api.RecWrite, Lsn: 52, Epoch: 1, Old: text(40, 1), New: text(40, 2)})
			d.Write(i, append(form, make([]byte, 128-len(form))...))
		}},
		{"pages", func(i int, d *disk.Disk) {
			p := page.Blank()
			p.Lsn = 52
			if i%4 == 0 && i < 20 {
				page.Write(d, 0, i/4, p)
			}
		}},
	} {
		d := made(t, 25, 25)
		for i := range 25 {
			c.fill(i, d)
		}
		if err := d.Sync(); err != api.OK {
			t.Fatal(err)
		}
		twin := d.Copy()
		// At the first operation the power would go: there is none.
		d.Arm(1)
		for range 2 {
			for at := range 7 {
				if l, err := wal.Open(d, at, 16); l != nil || err != api.ErrDamaged {
					t.Errorf("Open at %d of a device, %s: %v, error %d", at, c.name, l != nil, err)
				}
			}
		}
		d.Crash(nil)
		for i := range 25 {
			b, _ := d.Read(i)
			if was, _ := twin.Read(i); !bytes.Equal(b, was) || d.Used() != twin.Used() {
				t.Errorf("Open of a device, %s, has written the sector %d", c.name, i)
			}
		}
	}
}

// grown is logs in some states: empty, with records, with a point, opened some
// times, dropped, gone round.
func grown(t testing.TB) []*rig {
	var l []*rig
	add := func(more func(g *rig)) {
		g := rigged(t, 16)
		more(g)
		g.check()
		l = append(l, g)
	}
	add(func(g *rig) {})
	add(func(g *rig) {
		g.adds(five()...)
		g.flush()
	})
	add(func(g *rig) {
		g.adds(five()...)
		g.flush()
		g.master(g.m.recs[2].x.Lsn, g.m.recs[3].x.Lsn)
		g.adds(five()...)
		g.flush()
	})
	add(func(g *rig) {
		g.adds(five()...)
		g.flush()
		for range 5 {
			g.crash(1)
			g.adds(done(7))
			g.flush()
		}
	})
	add(func(g *rig) {
		g.adds(five()...)
		g.flush()
		g.drop(g.m.recs[3].x.Lsn)
		g.adds(commit(5, 6))
		g.flush()
	})
	add(func(g *rig) {
		for range 40 {
			g.adds(five()...)
			g.flush()
			g.master(g.m.recs[len(g.m.recs)-3].x.Lsn, g.m.recs[len(g.m.recs)-2].x.Lsn)
		}
		g.crash(1)
		g.adds(five()...)
		g.flush()
	})
	return l
}

func TestOneOfBothSectorsDamaged(t *testing.T) {
	r := rand.New(rand.NewSource(3))
	for i, g := range grown(t) {
		for which := range 2 {
			was, err := g.d.Read(g.m.at + which)
			g.gives("Read of a sector", err, api.OK)
			bad := [][]byte{make([]byte, 128), bytes.Repeat([]byte{255}, 128), text(128, 1)}
			for range 20 {
				b := make([]byte, 128)
				r.Read(b)
				bad = append(bad, b)
			}
			for bit := range 8 * 128 {
				b := bytes.Clone(was)
				b[bit/8] ^= 1 << (bit % 8)
				bad = append(bad, b)
			}
			for _, b := range bad {
				d, l, m, past := g.d, g.l, g.m, len(g.past)
				g.d = g.d.Copy()
				wreck(g, which, b)
				g.did("the state %d, the sector %d is %x", i, which, b)
				g.crash(1)
				// Both say it again: the other one may be damaged now.
				wreck(g, 1-which, b)
				g.crash(1)
				g.d, g.l, g.m, g.past = d, l, m, g.past[:past]
			}
		}
	}
}

func TestBothSectorsDamaged(t *testing.T) {
	for _, g := range grown(t) {
		was, err := g.d.Read(g.m.at)
		g.gives("Read of a sector", err, api.OK)
		bad := [][]byte{make([]byte, 128), bytes.Repeat([]byte{255}, 128), text(128, 1)}
		for bit := range 8 * 128 {
			b := bytes.Clone(was)
			b[bit/8] ^= 1 << (bit % 8)
			bad = append(bad, b)
		}
		for i, b := range bad {
			d := g.d.Copy()
			d.Write(g.m.at, b)
			d.Write(g.m.at+1, bad[(i+7)%len(bad)])
			d.Sync()
			for range 2 {
				if l, err := wal.Open(d, g.m.at, g.m.count); l != nil || err != api.ErrDamaged {
					t.Fatalf("Open with both sectors damaged, %x: %v, error %d", b, l != nil, err)
				}
			}
		}
	}
}

// A log that is somewhere else, or has another ring, is none here.
func TestOpenElsewhere(t *testing.T) {
	d := made(t, 200, 200)
	l, err := wal.Make(d, 20, 50)
	if err != api.OK {
		t.Fatal(err)
	}
	for _, x := range five() {
		l.Append(x)
	}
	l.Flush()
	for at := 15; at < 25; at++ {
		for count := 45; count < 55; count++ {
			if at == 20 && count == 50 {
				continue
			}
			if l, err := wal.Open(d, at, count); l != nil || err != api.ErrDamaged {
				t.Errorf("Open of %d at %d, where the log has 50 at 20: %v, error %d", count, at, l != nil, err)
			}
		}
	}
	if l, err := wal.Open(d, 20, 50); err != api.OK || l.Epoch() != 2 {
		t.Errorf("Open where the log is: error %d, epoch %d", err, l.Epoch())
	}
}

func TestOpenedManyTimes(t *testing.T) {
	for i, g := range grown(t) {
		for n := range 30 {
			was := g.l.Epoch()
			switch n % 3 {
			case 0:
				g.crash() // all that waits is lost: the epoch has lasted
			case 1:
				g.crash(1, 1, 1, 1)
			case 2:
				g.found(1, g.m.kept()) // without a crash
			}
			if g.l.Epoch() != was+1 {
				t.Errorf("the state %d: the epoch %d behind %d", i, g.l.Epoch(), was)
			}
		}
		g.adds(done(99))
		g.flush()
		g.crash()
		if g.m.recs[len(g.m.recs)-1].x.Epoch != g.m.epoch-1 {
			t.Errorf("the state %d: a record of another epoch: %s", i, tell(g.m.recs[len(g.m.recs)-1].x))
		}
	}
}

// Open where a Flush has told an error, without a crash: what is found then
// lasts, wherever the power goes at Open, whatever becomes of what waited.
func TestOpenWhereSectorsWait(t *testing.T) {
	for room := 4; room <= 8; room++ {
		g := &rig{t: t, d: made(t, 30, room), m: empty(0, 16)}
		var err api.Errno
		g.l, err = wal.Make(g.d, 0, 16)
		g.gives("Make", err, api.OK)
		// Dropped ones stand in all sectors that may be written ..
		for g.m.end() < uint64((room-2)*104-80) {
			g.adds(sized(t, 27+8*(len(g.m.recs)%2), 5))
		}
		g.flush()
		g.drop(g.m.recs[1].x.Lsn)
		// .. and others come in their place, but for them there is no room.
		for i := range 30 {
			g.adds(sized(t, 27+8*(i%2), uint64(i+2)))
		}
		g.gives("Flush", g.l.Flush(), api.ErrFull)
		waits := g.d.Waits()
		if len(waits) != room-2 {
			t.Fatalf("of %d sectors %v wait", room, waits)
		}
		keep := bytes.Repeat([]byte{1}, len(waits))
		for n := 1; n < 8; n++ {
			for _, picks := range patterns(len(waits) + 2) {
				h := &rig{t: t, d: g.d.Copy(), m: g.m.copy(), past: slices.Clone(g.past)}
				h.d.Arm(n)
				_, err := wal.Open(h.d, 0, 16)
				h.did("Open armed with %d: error %d", n, err)
				waiting := h.d.Waits()
				h.d.Crash(picks)
				h.did("%v waiting, Crash %v", waiting, picks)
				whole := h.m.torn(waits, keep)
				if err != api.OK && slices.Contains(waiting, waits[0]) {
					// By rising numbers: the log's own two come first.
					whole = h.m.torn(waiting, picks)
				}
				h.found(2, whole)
				h.adds(done(1000))
				h.crash()
			}
		}
	}
}

// P10.2

func TestAppendOfEachKind(t *testing.T) {
	g := rigged(t, 100)
	for _, x := range five() {
		for _, e := range []struct {
			lsn   uint64
			epoch uint32
		}{{0, 0}, {52, 1}, {7, 9}, {math.MaxUint64, math.MaxUint32}} {
			x.Lsn, x.Epoch = e.lsn, e.epoch
			g.adds(x)
			g.check()
		}
	}
	g.flush()
	g.check()
	g.crash(1)
	for _, x := range five() {
		g.adds(x)
	}
	g.check()
	for _, h := range g.m.recs[:24] {
		if h.x.Epoch != 1 {
			t.Errorf("an old record's epoch: %s", tell(h.x))
		}
	}
	for _, h := range g.m.recs[24:] {
		if h.x.Epoch != 2 {
			t.Errorf("a new record's epoch: %s", tell(h.x))
		}
	}
}

func mayNotBe() []api.Rec {
	return []api.Rec{
		{}, done(0), commit(0, 5), {Kind: 6, Txn: 1}, {Kind: -1}, {Kind: math.MaxInt, Txn: 5},
		write(1, nil, nil), write(1, text(2, 1), text(3, 1)), write(1, text(501, 1), text(501, 1)),
		{Kind: api.RecWrite, Off: 500, Old: text(1, 1), New: text(1, 1)},
		end(1, text(65, 1)), {Kind: api.RecEnd, Txn: 1, Next: 5}, {Kind: api.RecEnd, Clr: true, Undo: text(1, 1)},
		{Kind: api.RecDone, Txn: 1, Stamp: 1}, {Kind: api.RecPoint, Txn: 1},
		point(make([]api.Chain, 17), nil), point(nil, make([]api.Dirt, 65)),
	}
}

func TestAppendOfWhatMayNotBe(t *testing.T) {
	g := rigged(t, 16)
	refuse := func() {
		t.Helper()
		for _, x := range mayNotBe() {
			if err := g.append(x); err != api.ErrArg {
				t.Errorf("Append of %s: error %d", tell(x), err)
			}
		}
		g.check()
	}
	refuse()
	g.adds(five()...)
	refuse()
	g.flush()
	refuse()
	for g.m.left() >= 27 {
		g.adds(done(uint64(g.m.left())))
	}
	// ErrArg ahead of ErrFull.
	refuse()
	g.flush()
	g.crash()
	refuse()
}

// Records whose forms have just as many bytes as are Left, one less, one more.
func TestAppendWhereFewBytesAreLeft(t *testing.T) {
	for left := 0; left <= 330; left++ {
		for _, more := range []int{-1, 0, 1} {
			size := left + more
			if !canBe(size) {
				continue
			}
			g := filled(t, 16, left)
			want := api.OK
			if more == 1 {
				want = api.ErrFull
			}
			if err := g.append(sized(t, size, 5)); err != want {
				t.Errorf("Append of %d bytes where %d are left: error %d", size, left, err)
			}
			g.check()
			g.flush()
			g.check()
			g.crash(1)
			if want == api.OK && g.l.Left() != -more {
				t.Errorf("behind it %d are left", g.l.Left())
			}
		}
	}
	g := filled(t, 16, 0)
	for _, x := range five() {
		if err := g.append(x); err != api.ErrFull {
			t.Errorf("Append of %s where nothing is left: error %d", tell(x), err)
		}
	}
	g.check()
}

// filled is a log in which just so many bytes are left.
func filled(t testing.TB, count, left int) *rig {
	t.Helper()
	g := rigged(t, count)
	fill(g, left)
	return g
}

// fill appends records till just so many bytes are left.
func fill(g *rig, left int) {
	g.t.Helper()
	for tag := uint64(1); g.m.left() > left; tag++ {
		rest := g.m.left() - left
		switch {
		case rest >= 200:
			g.adds(sized(g.t, 109, tag))
		case rest > 109:
			g.adds(sized(g.t, rest/2, tag))
		default:
			g.adds(sized(g.t, rest, tag))
		}
	}
	if g.l.Left() != left {
		g.t.Fatalf("%d bytes are left, not %d", g.l.Left(), left)
	}
}

func TestLeft(t *testing.T) {
	g := rigged(t, 16)
	left := 1664
	for i, x := range five() {
		g.adds(x)
		left -= logrec.Size(x)
		if g.l.Left() != left {
			t.Errorf("behind the record %d: Left %d, not %d", i, g.l.Left(), left)
		}
	}
	g.flush()
	if g.l.Left() != left {
		t.Errorf("behind Flush: Left %d, not %d", g.l.Left(), left)
	}
	// Of Start's own half nothing is given up.
	for _, h := range slices.Clone(g.m.recs) {
		g.master(h.x.Lsn, 0)
		if want := left + int(h.x.Lsn/52*52) - 52; g.l.Left() != want {
			t.Errorf("behind Master(%d): Left %d, not %d", h.x.Lsn, g.l.Left(), want)
		}
	}
	g.master(g.m.end(), 0)
	if want := 32*52 - int(g.m.end()%52); g.l.Left() != want {
		t.Errorf("where nothing is held: Left %d, not %d", g.l.Left(), want)
	}
}

// Records longer than one half, and than several sectors.
func TestLongRecords(t *testing.T) {
	for _, size := range []int{53, 64, 65, 105, 109, 129, 257, 513, 1029} {
		for ahead := 27; ahead <= 109; ahead++ {
			if !canBe(ahead) {
				continue
			}
			g := rigged(t, 16)
			g.adds(sized(t, ahead, 1), sized(t, size, 2), done(3))
			g.check()
			g.flush()
			g.check()
			g.crash()
			g.everywhere()
		}
	}
	g := rigged(t, 16)
	g.adds(point(slices.Repeat([]api.Chain{{Txn: 1, First: 2, Last: 3}}, 16), slices.Repeat([]api.Dirt{{Page: 4, Lsn: 5}}, 64)))
	g.flush()
	g.crash()
}

// What is handed in may be written over afterwards, spare room behind it is left.
func TestAppendKeepsNothing(t *testing.T) {
	roomy := func(b []byte) []byte { return slices.Grow(bytes.Clone(b), 50) }
	g := rigged(t, 16)
	var asked []api.Rec
	for _, x := range five() {
		x.Old, x.New, x.Undo = roomy(x.Old), roomy(x.New), roomy(x.Undo)
		x.Open, x.Dirty = slices.Grow(slices.Clone(x.Open), 5), slices.Grow(slices.Clone(x.Dirty), 5)
		x.Lsn, x.Epoch = 77, 88
		g.adds(x)
		if x.Lsn != 77 || x.Epoch != 88 {
			t.Errorf("Append has changed %s", tell(x))
		}
		for _, b := range [][]byte{x.Old, x.New, x.Undo} {
			if slices.ContainsFunc(b[len(b):cap(b)], func(x byte) bool { return x != 0 }) {
				t.Errorf("Append has written behind a list: %x", b[:cap(b)])
			}
		}
		asked = append(asked, x)
	}
	for _, x := range asked {
		for _, b := range [][]byte{x.Old, x.New, x.Undo} {
			clear(b[:cap(b)])
		}
		clear(x.Open)
		clear(x.Dirty)
	}
	g.check()
	g.flush()
	g.check()
	g.crash()
}

// What is answered may be written over.
func TestReadAnswersNewMemory(t *testing.T) {
	g := rigged(t, 16)
	spoil := func() {
		t.Helper()
		for _, h := range g.m.recs {
			a, _, _ := g.l.Read(h.x.Lsn)
			b, _, _ := g.l.Read(h.x.Lsn)
			for _, s := range [][]byte{a.Old, a.New, a.Undo} {
				for i := range s {
					s[i] ^= 255
				}
				_ = append(s, 1, 2, 3, 4, 5, 6, 7, 8, 9)
			}
			clear(a.Open)
			clear(a.Dirty)
			if !logrec.Same(b, h.x) {
				t.Errorf("Read of %d shares memory with another Read", h.x.Lsn)
			}
		}
		g.check()
	}
	g.adds(five()...)
	spoil()
	g.flush()
	spoil()
	g.adds(five()...)
	spoil()
	g.crash()
	spoil()
}

func TestReadOfEachPlace(t *testing.T) {
	g := rigged(t, 16)
	g.everywhere()
	g.adds(five()...)
	g.everywhere()
	g.flush()
	g.everywhere()
	g.adds(five()...)
	g.everywhere()
	g.master(g.m.recs[2].x.Lsn, g.m.recs[3].x.Lsn)
	g.everywhere()
	g.drop(g.m.recs[6].x.Lsn)
	g.everywhere()
	g.crash()
	g.everywhere()
	g.adds(five()...)
	g.drop(g.m.recs[4].x.Lsn)
	g.everywhere()
	g.crash()
	g.everywhere()
}

func TestFlushOfNothing(t *testing.T) {
	for _, g := range grown(t) {
		for range 3 {
			g.flush()
		}
		g.check()
		g.crash()
		g.flush()
		g.crash()
	}
}

// Records that end within a half, at a half's end, at a sector's end, and
// again behind more that begin in the same half; each of them lasts.
func TestFlushWhereverRecordsEnd(t *testing.T) {
	ends := map[uint64]bool{}
	for first := 45; first <= 200; first++ {
		if !canBe(first) {
			continue
		}
		g := rigged(t, 16)
		g.adds(sized(t, first, 1))
		g.flush()
		ends[g.m.end()%104] = true
		twin := g.d.Copy()
		for i, second := range []int{27, 35, 45, 52, 77, 104, 109, 257} {
			g.d = twin.Copy()
			g.m.epoch = 1
			g.crash(1)
			g.adds(sized(t, second, 2))
			g.crash(1)
			g.adds(sized(t, second, 3))
			g.flush()
			ends[g.m.end()%104] = true
			g.adds(done(4))
			g.flush()
			g.adds(done(5), done(6))
			g.flush()
			g.check()
			g.crash(byte(i))
			if len(g.m.recs) != 5 {
				t.Fatalf("%d records behind a crash, not 5", len(g.m.recs))
			}
			g.m = g.m.upTo(g.m.recs[0].next)
		}
	}
	if len(ends) != 104 {
		t.Errorf("Flush at %d places of a sector, not at all 104", len(ends))
	}
}

// Many records, one Flush each, in halves that are written again and again.
func TestFlushOfEachRecord(t *testing.T) {
	r := rand.New(rand.NewSource(4))
	g := rigged(t, 20)
	for g.append(drawn(r)) == api.OK {
		g.flush()
		g.check()
	}
	g.crash()
}

// The ring is gone round many times, with records that lie over its end.
func TestRoundAndRound(t *testing.T) {
	r := rand.New(rand.NewSource(5))
	for _, count := range []int{16, 17, 20} {
		g := rigged(t, count)
		ring := uint64(2 * count * 52)
		over := 0
		for g.m.end() < 40*ring {
			for g.append(drawn(r)) == api.OK {
			}
			for _, h := range g.m.recs {
				if h.x.Lsn/ring != (h.next-1)/ring {
					over++
				}
			}
			g.flush()
			g.check()
			if r.Intn(3) == 0 {
				g.crash(1)
			}
			// Some are kept, none, or nearly all.
			i := r.Intn(len(g.m.recs) + 1)
			start := g.m.end()
			if i < len(g.m.recs) {
				start = g.m.recs[i].x.Lsn
			}
			g.master(start, 0)
			g.past = g.past[max(0, len(g.past)-50):]
			g.check()
		}
		if over < 20 {
			t.Errorf("just %d records lay over the end of a ring of %d sectors", over, count)
		}
	}
}

// A full ring, whose last half is in the sector of Start's own: Start's record stays.
func TestFullRingKeepsStart(t *testing.T) {
	for ahead := 45; ahead <= 109; ahead++ {
		g := rigged(t, 16)
		g.adds(sized(t, ahead, 1), sized(t, 52, 2), sized(t, 61, 3))
		g.flush()
		g.master(g.m.recs[1].x.Lsn, g.m.recs[1].x.Lsn)
		fill(g, 0)
		g.check()
		g.flush()
		g.check()
		g.crash(1)
		if !g.m.place(uint64(52+ahead)) || g.l.Left() != 0 {
			t.Errorf("Start behind a full ring: %d, Left %d", g.l.Start(), g.l.Left())
		}
	}
}

// P10.3

// three is a log with records that last, and records that do not.
func three(t testing.TB) *rig {
	g := rigged(t, 16)
	g.adds(five()...)
	g.flush()
	g.adds(five()...)
	return g
}

func TestMasterOfEachPlace(t *testing.T) {
	for start := uint64(0); start < 760; start++ {
		g := three(t)
		g.master(start, 0)
		g.check()
		if g.l.Start() == 52 {
			// Refused, or of Start itself: other points.
			if g.m.place(start) && start < g.m.flushed {
				g.master(start, start)
				g.check()
			}
		}
		g.crash()
	}
	if g := three(t); g.master(math.MaxUint64, 0) != api.ErrArg || g.master(0, math.MaxUint64) != api.ErrArg || g.master(math.MaxUint64, math.MaxUint64) != api.ErrArg {
		t.Error("Master of the greatest number is not refused")
	}
}

func TestMasterOfEachPoint(t *testing.T) {
	was := three(t)
	starts := []uint64{52, 53, was.m.recs[2].x.Lsn, was.m.recs[5].x.Lsn, was.m.flushed, was.m.recs[7].x.Lsn, was.m.end()}
	ok := 0
	for _, start := range starts {
		for point := uint64(0); point < 760; point++ {
			g := three(t)
			if g.master(start, point) == api.OK {
				ok++
				g.check()
				g.crash()
				g.check()
			} else {
				g.heads()
			}
		}
	}
	// From the first one on 0 and six, from the third one 0 and four, from the sixth one 0 and itself, from Flushed 0.
	if ok != 7+5+2+1 {
		t.Errorf("%d points were taken", ok)
	}
}

func TestMasterOfEnd(t *testing.T) {
	g := rigged(t, 16)
	if g.master(52, 0) != api.OK || g.master(52, 52) != api.ErrArg || g.master(53, 0) != api.ErrArg || g.master(0, 0) != api.ErrArg {
		t.Error("Master of an empty log")
	}
	g.adds(five()...)
	if g.master(g.m.end(), 0) != api.ErrArg {
		t.Error("Master of an End that does not last is not refused")
	}
	g.flush()
	if g.master(g.m.end(), g.m.end()) != api.ErrArg {
		t.Error("a point at End is not refused")
	}
	if g.master(g.m.end(), 0) != api.OK || g.l.Start() != g.l.End() {
		t.Error("Master of End is refused")
	}
	g.everywhere()
	g.crash()
	g.everywhere()
	g.adds(five()...)
	g.check()
	g.crash()
	g.adds(five()...)
	g.flush()
	g.crash()
	if len(g.m.recs) != 6 {
		t.Errorf("%d records behind Master of End", len(g.m.recs))
	}
}

// Master of Flushed, where more records are that do not last: they stay.
func TestMasterOfFlushed(t *testing.T) {
	g := three(t)
	if g.master(g.m.flushed, 0) != api.OK {
		t.Error("Master of Flushed is refused")
	}
	g.check()
	if len(g.m.recs) != 6 {
		t.Errorf("%d records behind it", len(g.m.recs))
	}
	twin := g.d.Copy()
	g.flush()
	g.crash()
	if len(g.m.recs) != 6 {
		t.Errorf("%d records behind Flush and a crash", len(g.m.recs))
	}
	g = three(t)
	g.master(g.m.flushed, 0)
	g.d = twin
	g.crash()
	if len(g.m.recs) != 0 {
		t.Errorf("%d records behind a crash", len(g.m.recs))
	}
}

// A point that was told may be another one, or none, later.
func TestPointsComeAndGo(t *testing.T) {
	g := rigged(t, 16)
	g.adds(five()...)
	g.flush()
	p := func(i int) uint64 { return g.m.recs[i].x.Lsn }
	for _, c := range [][2]uint64{{52, 52}, {52, p(4)}, {52, p(2)}, {52, 0}, {p(1), p(1)}, {p(1), p(5)}, {p(2), 0}, {p(3), p(3)}} {
		if g.master(c[0], c[1]) != api.OK {
			t.Errorf("Master(%d, %d) is refused", c[0], c[1])
		}
		g.check()
		g.crash(2)
	}
}

// P10.4

func TestDropOfEachPlace(t *testing.T) {
	for _, start := range []int{0, 3} {
		for _, point := range []int{-1, 3, 4} {
			ok := 0
			for p := uint64(0); p < 760; p++ {
				g := three(t)
				at := uint64(0)
				if point >= 0 {
					at = g.m.recs[point].x.Lsn
				}
				if g.master(g.m.recs[start].x.Lsn, at) != api.OK {
					t.Fatal("Master")
				}
				epoch, asked := g.l.Epoch(), p < g.m.flushed
				twin := g.d.Copy()
				if g.drop(p) != api.OK {
					g.heads()
					continue
				}
				ok++
				g.check()
				if !asked && !same(g.d, twin) {
					t.Errorf("Drop(%d), where none lasted, has changed the device", p)
				}
				if asked && g.l.Epoch() != epoch+1 || !asked && g.l.Epoch() != epoch {
					t.Errorf("behind Drop(%d) the epoch %d, behind %d", p, g.l.Epoch(), epoch)
				}
				if p < 300 {
					g.adds(done(50), sized(t, 77, 51))
					g.check()
				}
				g.flush()
				g.crash()
			}
			want := map[[2]int]int{{0, -1}: 13, {0, 3}: 9, {0, 4}: 8, {3, -1}: 10, {3, 3}: 9, {3, 4}: 8}[[2]int{start, point}]
			if ok != want {
				t.Errorf("from the record %d on, with the point %d: %d places were taken, not %d", start, point, ok, want)
			}
		}
	}
	if g := three(t); g.drop(math.MaxUint64) != api.ErrArg {
		t.Error("Drop of the greatest number is not refused")
	}
}

// same tells whether two devices have the same bytes, and the same waits.
func same(a, b *disk.Disk) bool {
	if a.Sectors() != b.Sectors() || a.Used() != b.Used() || !slices.Equal(a.Waits(), b.Waits()) {
		return false
	}
	for i := range a.Sectors() {
		x, _ := a.Read(i)
		if y, _ := b.Read(i); !bytes.Equal(x, y) {
			return false
		}
	}
	return true
}

// Drop where none lasted asks the device for nothing: not even whether its power is on.
func TestDropOfWhatDoesNotLast(t *testing.T) {
	g := three(t)
	g.d.Arm(1)
	g.d.Sync()
	for i := 11; i >= 6; i-- {
		g.drop(g.m.end())
		g.drop(g.m.recs[i].x.Lsn)
	}
	if g.l.End() != g.l.Flushed() || len(g.m.recs) != 6 || g.l.Epoch() != 1 {
		t.Errorf("End %d, Flushed %d, Epoch %d", g.l.End(), g.l.Flushed(), g.l.Epoch())
	}
	g.drop(g.m.end())
	g.adds(five()...)
	g.drop(g.m.recs[8].x.Lsn)
	g.adds(done(1))
	g.crash()
	g.adds(five()...)
	g.drop(g.m.recs[8].x.Lsn)
	g.adds(done(1))
	g.flush()
	g.check()
	g.crash()
	if len(g.m.recs) != 9 {
		t.Errorf("%d records", len(g.m.recs))
	}
}

func TestDropOfStart(t *testing.T) {
	g := three(t)
	if g.master(52, 52) != api.OK || g.drop(52) != api.ErrArg {
		t.Error("Drop of the point is not refused")
	}
	if g.master(52, 0) != api.OK || g.drop(52) != api.OK {
		t.Error("Drop of Start is refused")
	}
	if g.l.End() != 52 || g.l.Flushed() != 52 || g.l.Epoch() != 2 {
		t.Errorf("End %d, Flushed %d, Epoch %d", g.l.End(), g.l.Flushed(), g.l.Epoch())
	}
	g.everywhere()
	g.drop(52)
	g.crash()
	g.everywhere()
	g.adds(five()...)
	g.flush()
	g.crash()
	if g.l.Epoch() != 4 {
		t.Errorf("Epoch %d", g.l.Epoch())
	}
}

// Drop again and again, further down each time: each one lasts.
func TestDropsInARow(t *testing.T) {
	g := rigged(t, 16)
	for len(g.m.recs) < 20 {
		g.adds(sized(t, 45+len(g.m.recs), 1))
	}
	g.flush()
	for i := 19; i >= 0; i-- {
		g.drop(g.m.recs[i].x.Lsn)
		if g.l.Epoch() != uint32(21-i) {
			t.Errorf("the epoch %d behind %d drops", g.l.Epoch(), 20-i)
		}
		g.check()
		h := &rig{t: t, d: g.d.Copy(), m: g.m.copy()}
		h.crash()
		h.everywhere()
	}
}

// P10.5

func TestNoLog(t *testing.T) {
	for _, l := range []*wal.Log{nil, {}, new(wal.Log)} {
		if l.Start() != 0 || l.End() != 0 || l.Flushed() != 0 || l.Point() != 0 || l.Epoch() != 0 || l.Left() != 0 {
			t.Errorf("of no log: %d, %d, %d, %d, %d, %d", l.Start(), l.End(), l.Flushed(), l.Point(), l.Epoch(), l.Left())
		}
		for _, x := range append(mayNotBe(), five()...) {
			if lsn, err := l.Append(x); lsn != 0 || err != api.ErrNil {
				t.Errorf("Append to no log: %d, error %d", lsn, err)
			}
		}
		for _, p := range []uint64{0, 52, 53, math.MaxUint64} {
			if x, next, err := l.Read(p); next != 0 || err != api.ErrNil || !logrec.Same(x, api.Rec{}) {
				t.Errorf("Read of no log: %d, error %d", next, err)
			}
			if err := l.Master(p, 0); err != api.ErrNil {
				t.Errorf("Master of no log: error %d", err)
			}
			if err := l.Drop(p); err != api.ErrNil {
				t.Errorf("Drop of no log: error %d", err)
			}
		}
		if err := l.Flush(); err != api.ErrNil {
			t.Errorf("Flush of no log: error %d", err)
		}
	}
}

// Each call at which the device tells an error: the log is down from then on.
func TestDownFromTheFirstError(t *testing.T) {
	for _, c := range []struct {
		name string
		call func(g *rig) api.Errno
	}{
		{"Flush", func(g *rig) api.Errno { return g.l.Flush() }},
		{"Read", func(g *rig) api.Errno {
			_, _, err := g.l.Read(52)
			return err
		}},
		{"Master", func(g *rig) api.Errno { return g.l.Master(g.m.start, 0) }},
		{"Drop", func(g *rig) api.Errno { return g.l.Drop(g.m.recs[4].x.Lsn) }},
	} {
		g := three(t)
		g.d.Arm(1)
		g.d.Sync()
		// What asks the device for nothing is done, or refused, as ever.
		g.adds(done(3))
		g.reads(g.m.recs[8])
		g.lacks(53)
		g.gives("Master", g.l.Master(53, 0), api.ErrArg)
		g.gives("Drop", g.l.Drop(53), api.ErrArg)
		g.gives(c.name, c.call(g), api.ErrDown)
		g.did("%s without power", c.name)
		g.fails()
		// Behind a crash the old log is down still, and the new one is not.
		g.d.Crash(nil)
		g.fails()
		g.found(2, g.m.kept())
	}
}

// A device with too few sectors that may be written: ErrFull, once.
func TestDeviceThatIsFull(t *testing.T) {
	for most := range 2 {
		d := made(t, 30, most)
		if l, err := wal.Make(d, 0, 16); l != nil || err != api.ErrFull {
			t.Errorf("Make where %d sectors may be written: %v, error %d", most, l != nil, err)
		}
	}
	for most := 2; most < 18; most++ {
		g := &rig{t: t, d: made(t, 30, most), m: empty(5, 16)}
		var err api.Errno
		g.l, err = wal.Make(g.d, 5, 16)
		g.gives(fmt.Sprintf("Make where %d sectors may be written", most), err, api.OK)
		for n := 0; ; n++ {
			g.adds(sized(t, 109, uint64(n)))
			err := g.l.Flush()
			if err == api.OK {
				g.m.flush()
				g.check()
				continue
			}
			g.gives("Flush", err, api.ErrFull)
			break
		}
		g.did("Flush where %d sectors may be written: ErrFull", most)
		if int(g.m.end()) <= (most-2)*104 {
			t.Errorf("where %d sectors may be written, Flush of %d bytes is refused", most, g.m.end())
		}
		g.fails()
		waits := g.d.Waits()
		picks := bytes.Repeat([]byte{1}, 20)
		g.d.Crash(picks)
		g.found(1, g.m.torn(waits, picks))
		// Master, Drop and Open want no more sectors.
		g.master(g.m.start, 0)
		g.crash()
		g.drop(g.m.start)
		g.crash()
	}
}

// The chapter's examples

func TestExamples(t *testing.T) {
	for picks := range byte(4) {
		d := made(t, 18, 18)
		l, err := wal.Make(d, 0, 16)
		if err != api.OK || l.Left() != 1664 {
			t.Fatalf("Make: error %d, Left %d", err, l.Left())
		}
		for _, c := range [][2]uint64{{7, 52}, {8, 79}} {
			if lsn, err := l.Append(done(c[0])); err != api.OK || lsn != c[1] {
				t.Errorf("Append of RecDone of %d: %d, error %d", c[0], lsn, err)
			}
		}
		if l.End() != 106 {
			t.Errorf("End %d, not 106", l.End())
		}
		if err := l.Flush(); err != api.OK {
			t.Errorf("Flush: error %d", err)
		}
		if _, err := l.Append(done(9)); err != api.OK {
			t.Errorf("Append: error %d", err)
		}
		d.Crash([]byte{picks, picks, picks, picks})
		l, err = wal.Open(d, 0, 16)
		if err != api.OK || l.End() != 106 && l.End() != 133 || l.Epoch() != 2 {
			t.Fatalf("Open: error %d, End %d, Epoch %d", err, l.End(), l.Epoch())
		}
		if x, next, err := l.Read(79); err != api.OK || next != 106 || x.Kind != api.RecDone || x.Txn != 8 || x.Lsn != 79 || x.Epoch != 1 {
			t.Errorf("Read of 79: %s, %d, error %d", tell(x), next, err)
		}
		if x, next, err := l.Read(80); err != api.ErrNone || next != 0 || !logrec.Same(x, api.Rec{}) {
			t.Errorf("Read of 80: %s, %d, error %d", tell(x), next, err)
		}
		if err := l.Master(79, 0); err != api.OK || l.Start() != 79 || l.Left() != 33*52-int(l.End()) {
			t.Errorf("Master(79, 0): error %d, Start %d, Left %d", err, l.Start(), l.Left())
		}
	}
}

// P1

// Two logs on two devices, and two on one, know nothing of each other.
func TestTwoLogs(t *testing.T) {
	a, b := rigged(t, 16), rigged(t, 17)
	d := made(t, 60, 60)
	c, e := &rig{t: t, d: d, m: empty(1, 16)}, &rig{t: t, d: d, m: empty(19, 20)}
	for _, g := range []*rig{c, e} {
		var err api.Errno
		if g.l, err = wal.Make(d, g.m.at, g.m.count); err != api.OK {
			t.Fatalf("Make: error %d", err)
		}
	}
	all := []*rig{a, b, c, e}
	r := rand.New(rand.NewSource(6))
	for range 2000 {
		g := all[r.Intn(4)]
		act(r, g)
		for _, g := range all {
			g.heads()
			g.past = g.past[max(0, len(g.past)-20):]
		}
		if r.Intn(50) == 0 {
			d.Crash([]byte{1})
			c.found(1, c.m.kept())
			e.found(1, e.m.kept())
		}
	}
	for _, g := range all {
		g.check()
	}
	a.d.Arm(1)
	a.adds(done(1))
	a.gives("Flush", a.l.Flush(), api.ErrDown)
	a.fails()
	b.check()
	b.flush()
	b.crash()
}

// act does one call, drawn, that asks for what may be.
func act(r *rand.Rand, g *rig) {
	g.t.Helper()
	switch r.Intn(8) {
	case 0, 1:
		g.flush()
	case 2:
		if len(g.m.recs) > 0 {
			h := g.m.recs[r.Intn(len(g.m.recs))]
			g.master(h.x.Lsn, 0)
		}
	case 3:
		if len(g.m.recs) > 0 {
			h := g.m.recs[r.Intn(len(g.m.recs))]
			g.drop(h.x.Lsn)
		}
	default:
		g.append(drawn(r))
	}
}

// Logs on devices of their own, used at one time.
func TestLogsAtOnce(t *testing.T) {
	var all sync.WaitGroup
	for i := range 8 {
		all.Go(func() {
			r := rand.New(rand.NewSource(int64(i)))
			d, err := disk.New(30, 30)
			if err != api.OK {
				t.Errorf("disk.New: error %d", err)
				return
			}
			l, err := wal.Make(d, i%4, 16)
			if err != api.OK {
				t.Errorf("Make: error %d", err)
				return
			}
			m := empty(i%4, 16)
			for range 300 {
				x := drawn(r)
				lsn, err := l.Append(x)
				if want, wantErr := m.append(x); lsn != want || err != wantErr {
					t.Errorf("Append: %d, error %d, not %d, %d", lsn, err, want, wantErr)
				}
				if err == api.ErrFull {
					if l.Flush() != api.OK || l.Master(l.End(), 0) != api.OK {
						t.Error("Flush, Master")
					}
					m.flush()
					m.master(m.end(), 0)
				}
			}
			if l.Start() != m.start || l.End() != m.end() {
				t.Errorf("Start %d, End %d, not %d, %d", l.Start(), l.End(), m.start, m.end())
			}
		})
	}
	all.Wait()
}

// What a log tells hangs on what was called on it alone: told twice, it is the same.
func TestToldTwice(t *testing.T) {
	for _, g := range grown(t) {
		g.adds(five()...)
		g.check()
		g.check()
	}
	a, b := grown(t), grown(t)
	for i := range a {
		if !same(a[i].d, b[i].d) {
			t.Errorf("the state %d is another one the second time", i)
		}
	}
}
