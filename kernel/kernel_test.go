package kernel_test

import (
	"bytes"
	"fmt"
	"maps"
	"math"
	"math/rand"
	"slices"
	"strings"
	"testing"

	"vicinage/api"
	"vicinage/disk"
	"vicinage/kernel"
	"vicinage/logrec"
	"vicinage/wal"
)

// TestSectors: P12.1, at the least and the greatest numbers of a config.
func TestSectors(t *testing.T) {
	for _, x := range []struct {
		c    api.Config
		want int
	}{
		{api.Config{Ring: 16, Pages: 10, Frames: 2}, 63},
		{api.Config{Ring: 15, Pages: 10, Frames: 2}, 0},
		{api.Config{Ring: 16, Pages: 1, Frames: 1}, 27},
		{api.Config{Ring: 17, Pages: 1, Frames: 1}, 28},
		{api.Config{Ring: 8192, Pages: 1, Frames: 1}, 8203},
		{api.Config{Ring: 8193, Pages: 1, Frames: 1}, 0},
		{api.Config{Ring: 16, Pages: 0, Frames: 1}, 0},
		{api.Config{Ring: 16, Pages: -1, Frames: 1}, 0},
		{api.Config{Ring: 16, Pages: 12000, Frames: 1}, 48023},
		{api.Config{Ring: 16, Pages: 12001, Frames: 1}, 0},
		{api.Config{Ring: 16, Pages: 1, Frames: 0}, 0},
		{api.Config{Ring: 16, Pages: 1, Frames: -1}, 0},
		{api.Config{Ring: 16, Pages: 1, Frames: 64}, 27},
		{api.Config{Ring: 16, Pages: 1, Frames: 65}, 0},
		// The greatest config that may be has fewer than MaxSectors.
		{api.Config{Ring: 8192, Pages: 12000, Frames: 64}, 56199},
		{api.Config{Ring: 8192, Pages: 14334, Frames: 64}, 0},
		{api.Config{Ring: 8192, Pages: 14335, Frames: 64}, 0},
		{api.Config{Ring: math.MaxInt, Pages: 1, Frames: 1}, 0},
		{api.Config{Ring: 16, Pages: math.MaxInt, Frames: 1}, 0},
		{api.Config{Ring: 16, Pages: math.MaxInt/4 + 1, Frames: 1}, 0},
		{api.Config{Ring: 16, Pages: 1, Frames: math.MaxInt}, 0},
		{api.Config{Ring: math.MinInt, Pages: math.MinInt, Frames: math.MinInt}, 0},
		{api.Config{}, 0},
	} {
		if got := kernel.Sectors(x.c); got != x.want {
			t.Errorf("Sectors of %v: %d, not %d", x.c, got, x.want)
		}
	}
}

// refused holds what Make and Open tell of a device and a config.
func refused(t *testing.T, d *disk.Disk, c api.Config, make, open api.Errno) {
	t.Helper()
	if k, err := kernel.Open(d, c); err != open || k != nil {
		t.Errorf("Open of %v: %v, error %d, not %d", c, k, err, open)
	}
	if k, err := kernel.Make(d, c); err != make || (k == nil) != (make != api.OK) {
		t.Errorf("Make of %v: %v, error %d, not %d", c, k, err, make)
	}
}

// TestMakeAndOpenRefuse: P12.1, without a device, on devices that are too small,
// or off, with configs that may not be, and without a log.
func TestMakeAndOpenRefuse(t *testing.T) {
	c, none := api.Config{Ring: 16, Pages: 3, Frames: 2}, api.Config{Ring: 15, Pages: 3, Frames: 2}
	refused(t, nil, c, api.ErrNil, api.ErrNil)
	refused(t, nil, none, api.ErrNil, api.ErrNil)
	refused(t, &disk.Disk{}, c, api.ErrNil, api.ErrNil)
	n := kernel.Sectors(c)
	refused(t, made(t, n-1), c, api.ErrArg, api.ErrArg)
	refused(t, made(t, n), c, api.OK, api.ErrDamaged)
	refused(t, made(t, n+9), c, api.OK, api.ErrDamaged)
	refused(t, made(t, n), none, api.ErrArg, api.ErrArg)
	refused(t, made(t, 65536), api.Config{Ring: 8192, Pages: 12001, Frames: 1}, api.ErrArg, api.ErrArg)
	refused(t, made(t, 56198), api.Config{Ring: 8192, Pages: 12000, Frames: 64}, api.ErrArg, api.ErrArg)
	refused(t, made(t, 56199), api.Config{Ring: 8192, Pages: 12000, Frames: 64}, api.OK, api.ErrDamaged)
	d := made(t, n)
	if d.Arm(1) != api.OK || d.Sync() != api.ErrDown {
		t.Fatal("the power is not off")
	}
	refused(t, d, c, api.ErrDown, api.ErrDown)
	refused(t, d, none, api.ErrArg, api.ErrArg)
	// A device that has no room for the log is one that tells an error.
	d, _ = disk.New(n, 1)
	refused(t, d, c, api.ErrDown, api.ErrDamaged)
}

// sectors is all bytes of a device.
func sectors(t *testing.T, d *disk.Disk) []byte {
	t.Helper()
	var l []byte
	for i := range d.Sectors() {
		b, err := d.Read(i)
		if err != api.OK {
			t.Fatalf("Read %d: error %d", i, err)
		}
		l = append(l, b...)
	}
	return l
}

// TestOpenDamaged: where there was no log nothing is changed, though a page
// may be half put back.
func TestOpenDamaged(t *testing.T) {
	g := rigged(t, api.Config{Ring: 60, Pages: 3, Frames: 2})
	g.acts(0, "", 1)
	g.commit(5)
	g.gives("Arm", g.d.Arm(12), api.OK)
	g.clean()
	g.power([]byte{1, 0, 1, 0, 1, 0})
	for at := range 2 {
		g.gives("Write", g.d.Write(at, make([]byte, 128)), api.OK)
	}
	g.gives("Sync", g.d.Sync(), api.OK)
	was, used := sectors(t, g.d), g.d.Used()
	if k, err := kernel.Open(g.d, g.c); err != api.ErrDamaged || k != nil {
		t.Fatalf("Open without a log: %v, error %d", k, err)
	}
	if !bytes.Equal(sectors(t, g.d), was) || g.d.Used() != used || len(g.d.Waits()) != 0 {
		t.Fatal("Open without a log has changed the device")
	}
}

// TestMakeAnew: P12.1, on a device that is full of anything, or of what another
// kernel left: all pages are noughts, nothing is open, nothing is in the log.
func TestMakeAnew(t *testing.T) {
	c := api.Config{Ring: 100, Pages: 4, Frames: 2}
	r := rand.New(rand.NewSource(1))
	junk := made(t, kernel.Sectors(c)+3)
	for at := range junk.Sectors() {
		b := make([]byte, 128)
		r.Read(b)
		if junk.Write(at, b) != api.OK {
			t.Fatal("Write")
		}
	}
	old := rigged(t, api.Config{Ring: 105, Pages: 5, Frames: 1})
	old.acts(7, old.how(), 0, 1, 2)
	old.acts(8, "", 3, 4)
	same := rigged(t, c)
	same.acts(7, same.how(), 0, 1, 2)
	same.commit(9)
	devices := []*disk.Disk{junk, old.d, same.d}
	// Pages that are half put back.
	for n := 1; n < 60; n++ {
		half := rigged(t, c)
		half.acts(7, half.how(), 0, 1)
		half.gives("Arm", half.d.Arm(n), api.OK)
		half.clean()
		half.power(slices.Repeat([]byte{1}, 30))
		devices = append(devices, half.d)
	}
	for i, d := range devices {
		g := &rig{t: t, d: d, c: c, was: map[string]map[int]string{}, told: []state{blank(4)}}
		g.did("device %d", i)
		ends := []byte{}
		if d == junk {
			ends = sectors(t, d)[128*kernel.Sectors(c):]
		}
		k, err := kernel.Make(d, c)
		g.gives("Make", err, api.OK)
		g.k = k
		g.agrees()
		g.same(104*c.Ring, 1300)
		if g.k.Epoch() != 1 || len(g.d.Waits()) != 0 {
			g.fatal("Make: the epoch %d, %v wait", g.k.Epoch(), g.d.Waits())
		}
		if d == junk && !bytes.Equal(ends, sectors(t, d)[128*kernel.Sectors(c):]) {
			g.fatal("Make has written beyond the config's sectors")
		}
		g.crash(nil)
		g.acts(3, g.how(), 2)
		g.crash(nil)
		g.same(104*c.Ring, 1300)
	}
}

// TestStates: P12.2 to P12.5, which calls are for when an action is open, and
// which for when none is, and what else is refused.
func TestStates(t *testing.T) {
	g := rigged(t, api.Config{Ring: 100, Pages: 4, Frames: 2})
	g.idle()
	g.acts(7, g.how(), 0)
	g.acts(7, "", 1)
	g.acts(8, "", 1)
	g.idle()
	g.begin()
	g.busy()
	g.write(3, g.fresh())
	g.busy()
	g.cancel()
	g.idle()
	g.beginUndo(7)
	g.busy()
	// One that undoes is not ended by End, nor any other by EndUndo.
	g.end(7, "")
	g.end(0, "")
	g.end(7, strings.Repeat("x", 65))
	g.undoesOpen()
	g.idle()
	g.beginUndo(7)
	g.next(7)
	g.doneWith(7)
	g.doneWith(7)
	g.commit(7)
	g.idle()
	g.agrees()
}

// undoesOpen ends the undoing that is open.
func (g *rig) undoesOpen() {
	g.t.Helper()
	l := g.now().open[g.act.txn]
	for n, b := range g.was[l[len(l)-1]] {
		g.write(n, b)
	}
	if !g.endUndo() {
		g.fatal("EndUndo is refused")
	}
}

// idle makes the calls that are refused where no action is open.
func (g *rig) idle() {
	g.t.Helper()
	g.write(0, g.fresh())
	g.write(-1, "x")
	g.end(0, "")
	g.end(0, "x")
	g.end(1, strings.Repeat("x", 65))
	g.endUndo()
	g.cancel()
	g.beginUndo(0)
	g.beginUndo(99)
	g.beginUndo(8)
	g.next(0)
	g.next(99)
	g.next(8)
	g.commit(0)
	g.doneWith(0)
	g.agrees()
}

// busy makes the calls that are refused where an action is open.
func (g *rig) busy() {
	g.t.Helper()
	g.begin()
	g.beginUndo(7)
	g.beginUndo(99)
	g.next(7)
	g.next(0)
	g.commit(0)
	g.commit(7)
	g.doneWith(0)
	g.doneWith(7)
	g.doneWith(8)
	g.clean()
	g.point()
}

// TestPages: P12.2, numbers of pages and lengths of bodies.
func TestPages(t *testing.T) {
	g := rigged(t, api.Config{Ring: 100, Pages: 4, Frames: 2})
	for _, open := range []bool{false, true} {
		if open {
			g.begin()
		}
		for _, n := range []int{-1, 0, 1, 3, 4, 5, math.MaxInt, math.MinInt, 1 << 32} {
			g.read(n)
			for _, size := range []int{0, 499, 500, 501} {
				g.write(n, g.fresh()[:min(size, 500)]+strings.Repeat("x", max(size-500, 0)))
				g.read(n)
			}
		}
		if open {
			g.gives("Write of nil", g.k.Write(1, nil), api.ErrArg)
			if !g.end(7, g.how()) {
				g.fatal("End is refused")
			}
		}
	}
	g.agrees()
	g.crash(nil)
}

// TestReads: P12.2, P12.3, what is read within an action, behind Cancel, and behind End.
func TestReads(t *testing.T) {
	for frames := 1; frames <= 5; frames++ {
		g := rigged(t, api.Config{Ring: 300, Pages: 9, Frames: frames})
		g.acts(0, "", 0, 2)
		// More pages than there are frames, and one of them several times.
		for _, cancels := range []bool{true, false, true} {
			g.begin()
			for n := range 9 {
				g.read(n)
				g.write(n, g.fresh())
				g.read(n)
				g.read((n + 4) % 9)
			}
			for n := range 3 {
				g.write(2, g.fresh())
				g.write(8-n, g.page(n))
				g.read(2)
			}
			for n := range 9 {
				g.read(n)
			}
			if cancels {
				g.cancel()
			} else if !g.end(7, g.how()) {
				g.fatal("End is refused")
			}
			g.agrees()
		}
		g.commit(9)
		g.crash(nil)
		g.undoesAll(7)
		g.agrees()
	}
}

// TestRows: a write of a few bytes takes just them from the log; of all, no more
// than 1100 bytes; and all that changed is there behind a crash.
func TestRows(t *testing.T) {
	r := rand.New(rand.NewSource(2))
	g := rigged(t, api.Config{Ring: 4000, Pages: 1, Frames: 1})
	took := func(at ...int) int {
		g.t.Helper()
		b := []byte(g.page(0))
		for _, i := range at {
			b[i] ^= 0x55
		}
		g.begin()
		left := g.k.Left()
		g.write(0, string(b))
		left -= g.k.Left()
		if !g.end(0, "") {
			g.fatal("End is refused")
		}
		return left
	}
	for _, x := range []struct{ most, from, to, step int }{
		{29, 0, 1, 1}, {29, 499, 500, 1}, {49, 100, 111, 1}, {58, 0, 500, 499},
		{1100, 0, 500, 1}, {1100, 0, 500, 2}, {1100, 0, 500, 14}, {1100, 0, 500, 15}, {1000, 0, 500, 16}, {300, 0, 500, 50},
	} {
		var at []int
		for i := x.from; i < x.to; i += x.step {
			at = append(at, i)
		}
		if n := took(at...); n > x.most {
			g.fatal("a write of every %dth byte from %d to %d takes %d bytes", x.step, x.from, x.to, n)
		}
	}
	for range 200 {
		took(r.Perm(500)[:1+r.Intn(60)]...)
	}
	g.commit(1)
	g.crash(nil)
}

// TestOwnMemory: what Read and Next answer, and what is handed in, is the caller's alone.
func TestOwnMemory(t *testing.T) {
	g := rigged(t, api.Config{Ring: 100, Pages: 2, Frames: 1})
	body, how := []byte(g.fresh()), []byte("how")
	g.gives("Begin", g.k.Begin(), api.OK)
	g.gives("Write", g.k.Write(0, body), api.OK)
	want := string(body)
	body[3]++
	for range 2 {
		b, _ := g.k.Read(0)
		if string(b) != want {
			t.Fatal("what was handed in, or answered, is kept, and changed")
		}
		if cap(b) > len(b) {
			b = b[:cap(b)]
		}
		b[3]++
	}
	g.gives("End", g.k.End(7, how), api.OK)
	how[0]++
	for range 2 {
		b, err := g.k.Next(7)
		if err != api.OK || string(b) != "how" {
			t.Fatalf("Next: %q, error %d", b, err)
		}
		b[0]++
		x, _ := g.k.Read(0)
		if string(x) != want {
			t.Fatal("what was answered is kept, and changed")
		}
		x[3]++
		l := g.k.Txns()
		if !slices.Equal(l, []uint64{7}) {
			t.Fatalf("Txns: %v", l)
		}
		l[0]++
	}
}

// TestEnd: P12.3, undos of all lengths, transactions of any number, and too many of them.
func TestEnd(t *testing.T) {
	g := rigged(t, api.Config{Ring: 1000, Pages: 4, Frames: 2})
	g.begin()
	g.end(0, "x")
	g.end(0, strings.Repeat("x", 65))
	g.end(7, strings.Repeat("x", 65))
	g.end(7, strings.Repeat("x", 6500))
	g.end(0, "")
	for _, size := range []int{0, 1, 63, 64} {
		g.begin()
		g.end(7, strings.Repeat("x", size))
		g.next(7)
	}
	for range 3 {
		g.beginUndo(7)
		g.endUndo()
	}
	g.doneWith(7)
	// An empty list is none, too.
	g.gives("Begin", g.k.Begin(), api.OK)
	g.gives("End", g.k.End(0, []byte{}), api.OK)
	for i := range uint64(16) {
		g.begin()
		g.end(math.MaxUint64-5*i, "")
	}
	g.begin()
	g.write(0, g.fresh())
	g.end(1, "")
	g.end(1, g.how())
	g.end(1, strings.Repeat("x", 65))
	g.read(0)
	// It is open still: for one of them, or for nobody, it may be ended.
	if !g.end(math.MaxUint64, g.how()) {
		g.fatal("End for a transaction that is open is refused")
	}
	g.acts(0, "", 1)
	g.commit(math.MaxUint64 - 5)
	g.acts(1, "", 1)
	if g.tries(2, "", 2) {
		g.fatal("17 transactions are open")
	}
	g.doneWith(1)
	g.acts(2, "", 2)
	g.agrees()
	g.point()
	g.commit(99)
	g.crash(nil)
	if g.tries(1, "", 2) {
		g.fatal("behind a crash 17 transactions are open")
	}
}

// TestUndos: P12.2, P12.4, the undos of a transaction come back last one first,
// in the midst of others' actions, of which each has its own; and behind crashes.
func TestUndos(t *testing.T) {
	for _, crashes := range []bool{false, true} {
		g := rigged(t, api.Config{Ring: 800, Pages: 6, Frames: 2})
		turn := func() {
			if crashes {
				g.commit(99)
				g.crash(nil)
			}
		}
		for i := range 3 {
			for txn := range uint64(3) {
				g.acts(txn+1, g.how(), int(txn), 3+int(txn))
				g.acts(txn+1, "", 5)
			}
			turn()
			g.acts(0, "", i)
		}
		for _, txn := range []uint64{2, 2, 1, 3, 2, 1} {
			g.doneWith(txn)
			g.undoes(txn)
			turn()
		}
		g.acts(2, g.how(), 4)
		g.acts(1, g.how(), 4, 5)
		g.beginUndo(1)
		g.write(4, g.fresh())
		g.cancel()
		turn()
		for _, txn := range []uint64{3, 1, 2} {
			g.undoesAll(txn)
			g.beginUndo(txn)
			turn()
		}
		if len(g.k.Txns()) != 0 || g.k.Keep() != 1300 {
			g.fatal("open are %v, %d kept", g.k.Txns(), g.k.Keep())
		}
		// A number may come again.
		g.acts(2, g.how(), 1)
		turn()
		g.undoesAll(2)
		g.agrees()
	}
}

// TestCommits: P12.4, of a transaction with something to be undone, of one that is
// not open, and of one that was committed before.
func TestCommits(t *testing.T) {
	g := rigged(t, api.Config{Ring: 200, Pages: 3, Frames: 2})
	for _, txn := range []uint64{1, math.MaxUint64} {
		g.acts(txn, g.how(), 0)
		g.acts(txn, g.how(), 1)
		g.doneWith(txn)
		g.gives("Commit", g.k.Commit(txn, math.MaxUint64), api.OK)
		g.ends(g.now().without(txn))
		g.lasts()
		g.next(txn)
		g.beginUndo(txn)
		left := g.k.Left()
		g.commit(txn)
		g.doneWith(txn)
		if g.k.Left() != left {
			g.fatal("a commit of nothing, or what is done with nothing, takes %d bytes", left-g.k.Left())
		}
		g.crash(nil)
	}
	// A commit of one that is not open makes all last that was told.
	g.acts(5, "", 2)
	g.commit(77)
	g.crash(nil)
	if !slices.Equal(g.k.Txns(), []uint64{5}) {
		g.fatal("open are %v", g.k.Txns())
	}
}

// filled is a kernel whose log has room for no more actions, with so many open transactions.
func filled(t *testing.T, c api.Config, txns int) *rig {
	t.Helper()
	g := rigged(t, c)
	for i := 0; ; i++ {
		n := i % c.Pages
		if !g.tries(uint64(1+i%txns), g.how(), n, (n+1)%c.Pages) {
			break
		}
	}
	for g.tries(1, "", 0, 1) {
	}
	for g.tries(0, "", 0) {
	}
	// And what is kept for points is taken by points.
	for g.point() {
	}
	g.agrees()
	return g
}

// TestFull: an undoing that writes at most two pages, once each, a commit and a
// done are never refused with ErrFull, however full the log is; other writes are.
func TestFull(t *testing.T) {
	for _, txns := range []int{1, 3, 16} {
		for _, cuts := range []bool{false, true} {
			g := filled(t, api.Config{Ring: 700, Pages: 5, Frames: 3}, txns)
			if left, keep := g.k.Left(), g.k.Keep(); left >= keep {
				g.fatal("%d are left, and %d kept", left, keep)
			}
			g.begin()
			if g.write(0, g.fresh()) || !g.write(0, g.page(0)) || g.end(0, "") || g.end(1, "") {
				g.fatal("in a full log there is room")
			}
			g.cancel()
			for i, txn := range slices.Sorted(maps.Keys(g.now().open)) {
				for j := 0; len(g.now().open[txn]) > 0; j++ {
					g.undoesFull(txn, i+j)
					if cuts && j%2 == 0 {
						g.commit(99)
						g.crash(nil)
					}
				}
				if i%2 == 0 {
					g.doneWith(txn)
				} else {
					g.commit(txn)
				}
			}
			g.agrees()
			g.clean()
			if !g.point() || g.k.Left() < 104*g.c.Ring-1300 {
				g.fatal("behind Clean and Point %d are left", g.k.Left())
			}
			g.acts(0, "", 0)
		}
	}
}

// undoesFull undoes something with as many bytes as an undoing may write in a full log.
func (g *rig) undoesFull(txn uint64, j int) {
	g.t.Helper()
	g.beginUndo(txn)
	if !g.write(j%5, g.fresh()) || j%3 != 1 && !g.write((j+1)%5, g.fresh()) {
		g.fatal("an undoing is refused")
	}
	// More of it may be refused; it can be ended all the same.
	if j%3 == 2 {
		for g.write((j+2)%5, g.fresh()) {
		}
	}
	if !g.endUndo() {
		g.fatal("EndUndo is refused")
	}
}

// TestUndoRoom: what an undoing writes beyond two pages, once each, may be
// refused, but only where what is kept for others is more than is left.
func TestUndoRoom(t *testing.T) {
	g := rigged(t, api.Config{Ring: 100, Pages: 5, Frames: 2})
	g.acts(1, g.how(), 0)
	g.beginUndo(1)
	n := 0
	for g.write(n%5, g.fresh()) {
		n++
	}
	if n < 6 || g.k.Left() < 1300 || g.k.Left() > 1300+1100 {
		g.fatal("%d writes, %d left", n, g.k.Left())
	}
	if !g.endUndo() {
		g.fatal("EndUndo is refused")
	}
	g.doneWith(1)
	g.clean()
	if !g.point() {
		g.fatal("Point is refused")
	}
	g.agrees()
}

// TestKeep: P12.6, with no transaction, one and several, of none, one and several actions.
func TestKeep(t *testing.T) {
	g := rigged(t, api.Config{Ring: 500, Pages: 3, Frames: 2})
	is := func(want int) {
		t.Helper()
		if got := g.k.Keep(); got != want {
			g.fatal("Keep: %d, not %d", got, want)
		}
	}
	is(1300)
	g.acts(0, "", 0)
	is(1300)
	g.acts(1, "", 0)
	is(1380)
	g.acts(1, g.how(), 0)
	is(3780)
	g.acts(1, "", 0)
	is(3780)
	g.acts(2, g.how(), 1)
	is(6260)
	g.acts(2, g.how(), 1)
	is(8660)
	g.begin()
	is(8660)
	g.cancel()
	g.beginUndo(2)
	g.cancel()
	is(8660)
	g.commit(99)
	g.crash(nil)
	is(8660)
	g.undoes(2)
	is(6260)
	g.undoes(2)
	is(3860)
	g.commit(1)
	is(1380)
	g.doneWith(2)
	is(1300)
}

// TestNumbers: P12.6, ahead of Open, and behind it.
func TestNumbers(t *testing.T) {
	g := rigged(t, api.Config{Ring: 200, Pages: 7, Frames: 2})
	g.same(20800, 1300)
	if len(g.k.Txns()) != 0 || g.k.Epoch() != 1 || g.k.Pages() != 7 {
		g.fatal("Txns %v, Epoch %d, Pages %d", g.k.Txns(), g.k.Epoch(), g.k.Pages())
	}
	g.acts(9, g.how(), 0)
	g.acts(3, "", 1)
	g.commit(99)
	left, keep, epoch := g.k.Left(), g.k.Keep(), g.k.Epoch()
	for range 3 {
		g.crash(nil)
		g.same(left, keep)
		if got := g.k.Txns(); !slices.Equal(got, []uint64{3, 9}) || g.k.Pages() != 7 {
			g.fatal("Txns %v, Pages %d", got, g.k.Pages())
		}
		if g.k.Epoch() <= epoch {
			g.fatal("Epoch %d, behind %d", g.k.Epoch(), epoch)
		}
		epoch = g.k.Epoch()
	}
	// Frames are of memory alone: there may be others behind a crash.
	for frames := 1; frames <= 64; frames += 21 {
		g.c.Frames = frames
		g.acts(0, "", 2, 3)
		g.commit(99)
		g.crash(nil)
	}
	// Without a crash it is opened anew, too.
	g.acts(3, "", 4)
	if !g.opens() {
		g.fatal("Open is refused without a crash")
	}
}

// TestNone: P12.6, of no kernel.
func TestNone(t *testing.T) {
	for _, k := range []*kernel.Kernel{nil, {}} {
		for name, err := range tells(k) {
			if err != api.ErrNil {
				t.Errorf("%s of no kernel: error %d", name, err)
			}
		}
		if b, _ := k.Read(0); len(b) != 0 {
			t.Errorf("Read of no kernel: %d bytes", len(b))
		}
		if b, _ := k.Next(1); len(b) != 0 {
			t.Errorf("Next of no kernel: %d bytes", len(b))
		}
		if len(k.Txns()) != 0 || k.Left() != 0 || k.Keep() != 0 || k.Epoch() != 0 || k.Pages() != 0 {
			t.Errorf("no kernel has numbers")
		}
	}
}

// TestDown: P12.6, once the device has told an error, whatever it is, all calls
// that may tell one tell ErrDown; the power's coming back does not help.
func TestDown(t *testing.T) {
	for name, call := range map[string]func(g *rig){
		"Commit": func(g *rig) { g.commit(7) },
		"Clean":  func(g *rig) { g.clean() },
		"Point":  func(g *rig) { g.point() },
		"Read": func(g *rig) {
			for n := range 4 {
				g.read(n)
			}
		},
		"Write": func(g *rig) {
			g.begin()
			for n := range 4 {
				g.write(n, g.fresh())
			}
		},
		"End": func(g *rig) { g.acts(3, "", 0, 1, 2, 3) },
	} {
		g := rigged(t, api.Config{Ring: 100, Pages: 4, Frames: 2})
		g.acts(7, g.how(), 0, 1)
		g.gives("Arm", g.d.Arm(1), api.OK)
		call(g)
		if !g.down {
			g.fatal("%s is done without power", name)
		}
		g.dead()
		g.k.Txns()
		if g.k.Pages() != 4 {
			g.fatal("without power there are %d pages", g.k.Pages())
		}
		k := g.k
		g.crash(nil)
		for name, err := range tells(k) {
			if err != api.ErrDown {
				g.fatal("%s of a kernel whose device told an error: %d", name, err)
			}
		}
		g.agrees()
	}
}

// TestDeviceFull: an error of the device is ErrDown, though it is ErrFull there.
func TestDeviceFull(t *testing.T) {
	c := api.Config{Ring: 40, Pages: 4, Frames: 2}
	for most := 2; most < 12; most++ {
		d, err := disk.New(kernel.Sectors(c), most)
		if err != api.OK {
			t.Fatal(err)
		}
		k, err := kernel.Make(d, c)
		if err == api.ErrDown {
			continue
		}
		if err != api.OK {
			t.Fatalf("Make: error %d", err)
		}
		for i := 0; err == api.OK && i < 9; i++ {
			for _, step := range []func() api.Errno{
				k.Begin,
				func() api.Errno { return k.Write(i%4, bytes.Repeat([]byte{byte(i + 1)}, 500)) },
				func() api.Errno { return k.End(0, nil) },
				func() api.Errno { return k.Commit(1, 1) },
				k.Clean,
				k.Point,
			} {
				if err == api.OK {
					err = step()
				}
			}
		}
		if err != api.ErrDown {
			t.Fatalf("on a device that is full: error %d", err)
		}
		for name, err := range tells(k) {
			if err != api.ErrDown {
				t.Fatalf("%s on a device that is full: error %d", name, err)
			}
		}
	}
}

// logged is the log of a kernel as it lasts, whose places and epochs are looked at alone.
func (g *rig) logged() *wal.Log {
	g.t.Helper()
	d := g.d.Copy()
	g.gives("Crash", d.Crash(nil), api.OK)
	l, err := wal.Open(d, 0, g.c.Ring)
	g.gives("wal.Open", err, api.OK)
	return l
}

// records is all records of a log.
func records(g *rig, l *wal.Log) []api.Rec {
	g.t.Helper()
	var all []api.Rec
	for at := l.Start(); at < l.End(); {
		x, next, err := l.Read(at)
		g.gives("Read of the log", err, api.OK)
		all = append(all, x)
		at = next
	}
	return all
}

// TestLogged: what stands in the log is what was done: what pages were and became,
// which action is whose, how it is undone, and which one is undone next.
func TestLogged(t *testing.T) {
	g := rigged(t, api.Config{Ring: 500, Pages: 3, Frames: 2})
	g.acts(7, "how", 0)
	g.acts(0, "", 1, 2)
	g.acts(7, "", 0)
	g.acts(8, g.how(), 1)
	g.acts(7, "else", 2)
	g.begin()
	g.write(1, g.fresh())
	g.cancel()
	g.undoes(7)
	g.undoes(7)
	g.doneWith(7)
	g.gives("Commit", g.k.Commit(8, 99), api.OK)
	pages := blank(3).pages
	var ends []api.Rec
	var whole []api.Rec
	for _, x := range records(g, g.logged()) {
		switch x.Kind {
		case api.RecWrite:
			b := []byte(pages[x.Page])
			if !bytes.Equal(b[x.Off:][:len(x.Old)], x.Old) {
				g.fatal("a record says that the page %d was another one", x.Page)
			}
			copy(b[x.Off:], x.New)
			pages[x.Page] = string(b)
		case api.RecEnd:
			ends = append(ends, x)
		default:
			whole = append(whole, x)
		}
	}
	if !slices.Equal(pages, g.now().pages) {
		g.fatal("the records make other pages")
	}
	if len(ends) != 7 || len(whole) != 2 {
		g.fatal("the records are %v, %v", ends, whole)
	}
	at := func(i int) uint64 { return ends[i].Lsn }
	for i, want := range []api.Rec{
		{Txn: 7, Undo: []byte("how")},
		{},
		{Txn: 7, Prev: at(0)},
		{Txn: 8, Undo: ends[3].Undo},
		{Txn: 7, Prev: at(2), Undo: []byte("else")},
		{Txn: 7, Prev: at(4), Clr: true, Next: at(0)},
		{Txn: 7, Prev: at(5), Clr: true},
	} {
		want.Kind, want.Lsn, want.Epoch = api.RecEnd, ends[i].Lsn, 1
		if !logrec.Same(ends[i], want) {
			g.fatal("the end %d is %v, not %v", i, ends[i], want)
		}
	}
	done, commit := whole[0], whole[1]
	if done.Kind != api.RecDone || done.Txn != 7 || commit.Kind != api.RecCommit || commit.Txn != 8 || commit.Stamp != 99 {
		g.fatal("the records are %v", whole)
	}
}

// TestNotDirty: behind a crash a page that was put back is not dirty: it is not
// written again, and nothing of the log is wanted for it.
func TestNotDirty(t *testing.T) {
	g := rigged(t, api.Config{Ring: 300, Pages: 4, Frames: 4})
	g.acts(0, "", 0, 1)
	g.clean()
	g.acts(0, "", 2)
	g.acts(0, "", 2)
	g.commit(99)
	dirty := func() int {
		g.crash(nil)
		k := g.copy()
		k.crash(nil)
		k.point()
		l := k.logged()
		p, _, err := l.Read(l.Point())
		k.gives("Read of the point", err, api.OK)
		for _, d := range p.Dirty {
			if d.Page != 2 {
				k.fatal("dirty are %v", p.Dirty)
			}
		}
		return len(p.Dirty)
	}
	for range 3 {
		if dirty() != 1 {
			g.fatal("the page that was not put back is not dirty")
		}
	}
	g.clean()
	if dirty() != 0 {
		g.fatal("the page that was put back is dirty")
	}
	if !g.point() || g.k.Left() < 104*300-1300 {
		g.fatal("behind Clean, a crash, and Point %d are left", g.k.Left())
	}
}

// TestPoint: P12.5, what is open and dirty is told in the log, and the log is given
// up as far as nothing wants it.
func TestPoint(t *testing.T) {
	for _, x := range []struct {
		name  string
		calls func(g *rig)
		txns  []uint64
		pages []uint32
	}{
		{"nothing", func(g *rig) {}, nil, nil},
		{"dirty pages", func(g *rig) { g.acts(0, "", 4, 1) }, nil, []uint32{1, 4}},
		{"dirty pages, all but one put back ahead", func(g *rig) {
			g.acts(0, "", 4, 1)
			g.clean()
			g.acts(0, "", 3)
			g.acts(0, "", 3)
		}, nil, []uint32{3}},
		{"pages that are put back, and a transaction", func(g *rig) {
			g.acts(0, "", 1)
			g.acts(7, g.how(), 4, 2)
			g.acts(7, "", 4)
			g.clean()
		}, []uint64{7}, nil},
		{"transactions, and pages", func(g *rig) {
			g.acts(7, g.how(), 1)
			g.acts(2, "", 1)
			g.acts(9, g.how(), 3)
			g.undoes(9)
			g.acts(5, "", 4)
			g.commit(5)
			g.clean()
			g.acts(7, "", 0)
		}, []uint64{2, 7, 9}, []uint32{0}},
		{"transactions that are no longer open", func(g *rig) {
			g.acts(7, g.how(), 1)
			g.acts(2, "", 1)
			g.commit(7)
			g.doneWith(2)
			g.clean()
		}, nil, nil},
		{"a cancelled action", func(g *rig) {
			g.begin()
			g.write(3, g.fresh())
			g.cancel()
		}, nil, nil},
	} {
		for range 3 {
			g := rigged(t, api.Config{Ring: 300, Pages: 5, Frames: 5})
			g.did("%s", x.name)
			g.acts(0, "", 0, 1, 2)
			g.clean()
			x.calls(g)
			at := g.logged().End()
			if !g.point() {
				g.fatal("Point is refused")
			}
			l := g.logged()
			p, _, err := l.Read(l.Point())
			g.gives("Read of the point", err, api.OK)
			var txns []uint64
			var pages []uint32
			want := l.Point()
			for _, c := range p.Open {
				txns = append(txns, c.Txn)
				want = min(want, c.First)
				var ends []uint64
				for _, x := range records(g, l) {
					if x.Kind == api.RecEnd && x.Txn == c.Txn {
						ends = append(ends, x.Lsn)
					}
				}
				if len(ends) == 0 || c.First != ends[0] || c.Last != ends[len(ends)-1] {
					g.fatal("the transaction %d has the ends %v, and the point tells %v", c.Txn, ends, c)
				}
			}
			for _, d := range p.Dirty {
				pages = append(pages, d.Page)
				want = min(want, d.Lsn)
				if x, _, err := l.Read(d.Lsn); err != api.OK || x.Kind != api.RecWrite || x.Page != d.Page {
					g.fatal("the page %d is dirty since %v, error %d", d.Page, x, err)
				}
			}
			if p.Kind != api.RecPoint || !slices.Equal(txns, x.txns) || !slices.Equal(pages, x.pages) {
				g.fatal("%s: the point tells %v, %v, not %v, %v", x.name, txns, pages, x.txns, x.pages)
			}
			if l.Start() != want || l.Point() < at {
				g.fatal("%s: the log starts at %d, not %d, the point at %d", x.name, l.Start(), want, l.Point())
			}
			g.crash(nil)
			g.acts(1, g.how(), 2)
			g.crash([]byte{1})
		}
	}
}

// TestRounds: P12.5, actions go on without an end in a ring that is gone round
// many times, with Clean and Point by turns, open transactions, and crashes.
func TestRounds(t *testing.T) {
	for _, c := range []api.Config{{Ring: 30, Pages: 3, Frames: 1}, {Ring: 61, Pages: 7, Frames: 3}, {Ring: 200, Pages: 70, Frames: 64}} {
		g := rigged(t, c)
		for i := range 300 {
			if !g.tries(0, "", i%c.Pages) || i%5 == 0 {
				g.clean()
				if !g.point() || len(g.k.Txns()) == 0 && g.k.Left() < 104*c.Ring-1300 {
					g.fatal("behind Clean and Point %d are left", g.k.Left())
				}
			}
			if c.Ring > 60 && i%7 == 0 {
				if g.tries(uint64(1+i%3), g.how(), i%c.Pages) {
					g.point()
					g.undoesAll(uint64(1 + i%3))
				}
			}
			if i%11 == 0 {
				g.crash([]byte{1, 0, 1, 2, 3})
				for _, txn := range g.k.Txns() {
					g.undoesAll(txn)
				}
			}
			g.past = g.past[max(0, len(g.past)-200):]
		}
		g.agrees()
	}
}

// TestPointsOfMany: the point of as many open transactions and dirty pages as there
// may be has room in what is kept for it.
func TestPointsOfMany(t *testing.T) {
	g := rigged(t, api.Config{Ring: 900, Pages: 64, Frames: 64})
	for n := range 64 {
		g.acts(uint64(1+n%16), "", n)
	}
	for range 2 {
		left := g.k.Left()
		if !g.point() || left-g.k.Left() > 1300 {
			g.fatal("Point takes %d bytes", left-g.k.Left())
		}
		g.acts(1, g.how(), 0)
	}
	g.crash(nil)
}

// TestPointsAgain: points alone, without Clean, never leave a log in which nothing
// can be done any more.
func TestPointsAgain(t *testing.T) {
	for ring := 16; ring < 40; ring++ {
		g := rigged(t, api.Config{Ring: ring, Pages: 3, Frames: 3})
		b := []byte(g.page(1))
		b[7]++
		g.begin()
		g.write(1, string(b))
		g.end(0, "")
		for range 5000 {
			if !g.point() {
				break
			}
		}
		g.clean()
		if !g.point() || g.k.Left() < 104*ring-1300 {
			g.fatal("behind Clean and Point %d are left", g.k.Left())
		}
		g.crash(nil)
	}
}

// TestTwo: two kernels on two devices know nothing of each other.
func TestTwo(t *testing.T) {
	c := api.Config{Ring: 100, Pages: 3, Frames: 1}
	a, b := rigged(t, c), rigged(t, c)
	a.acts(1, a.how(), 0)
	b.begin()
	a.begin()
	b.write(1, b.fresh())
	a.write(0, a.fresh())
	a.cancel()
	b.end(2, "")
	a.agrees()
	b.agrees()
	a.gives("Arm", a.d.Arm(1), api.OK)
	a.commit(1)
	a.dead()
	b.commit(9)
	b.agrees()
	b.crash(nil)
	a.crash(nil)
	a.agrees()
}

// TestExamples: the chapter's.
func TestExamples(t *testing.T) {
	g := rigged(t, api.Config{Ring: 200, Pages: 10, Frames: 2})
	k, noughts, a, u := g.k, make([]byte, 500), bytes.Repeat([]byte{0xA}, 500), []byte("u")
	g.gives("Begin", k.Begin(), api.OK)
	g.gives("Write", k.Write(3, a), api.OK)
	g.gives("End", k.End(7, u), api.OK)
	if b, err := k.Next(7); err != api.OK || !bytes.Equal(b, u) {
		t.Errorf("Next: %q, error %d", b, err)
	}
	g.gives("BeginUndo", k.BeginUndo(7), api.OK)
	g.gives("Write", k.Write(3, noughts), api.OK)
	g.gives("EndUndo", k.EndUndo(), api.OK)
	_, err := k.Next(7)
	g.gives("Next", err, api.ErrNone)
	g.gives("Done", k.Done(7), api.OK)
	g.gives("Begin", k.Begin(), api.OK)
	g.gives("Write", k.Write(3, a), api.OK)
	g.gives("Cancel", k.Cancel(), api.OK)
	if b, err := k.Read(3); err != api.OK || !bytes.Equal(b, noughts) {
		t.Errorf("Read: %s, error %d", short(string(b)), err)
	}
	g.gives("Begin", k.Begin(), api.OK)
	g.gives("Write", k.Write(3, a), api.OK)
	g.gives("End", k.End(7, u), api.OK)
	g.gives("Crash", g.d.Crash([]byte{1, 1}), api.OK)
	k, err = kernel.Open(g.d, g.c)
	g.gives("Open", err, api.OK)
	b, err := k.Read(3)
	g.gives("Read", err, api.OK)
	both := fmt.Sprint(bytes.Equal(b, a), bytes.Equal(b, noughts), k.Txns())
	if both != "true false [7]" && both != "false true []" {
		t.Errorf("behind a crash: %s", both)
	}
}
