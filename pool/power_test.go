package pool_test

import (
	"bytes"
	"fmt"
	"maps"
	"math/rand"
	"slices"
	"testing"

	"vicinage/api"
	"vicinage/page"
	"vicinage/pool"
	"vicinage/wal"
)

// turns is picks for n sectors that wait: none of them is kept, all, each half,
// and all of it by turns.
func turns(n int) [][]byte {
	l := [][]byte{nil}
	for _, some := range [][]byte{{1}, {2}, {3}, {0, 1}, {1, 0}, {2, 3}, {3, 2}, {0, 1, 2, 3}, {3, 0, 2, 1}} {
		l = append(l, slices.Repeat(some, n)[:n])
	}
	return l
}

// few is some of turns.
func few(n int) [][]byte {
	l := turns(n)
	return [][]byte{l[0], l[1], l[6], l[8]}
}

// patterns is turns, and each sector alone, and all but one, each with each pick.
func patterns(n int) [][]byte {
	l := turns(n)
	for i := range n {
		for pick := range byte(4) {
			a, b := make([]byte, n), bytes.Repeat([]byte{1}, n)
			a[i], b[i] = pick, pick
			l = append(l, a, b)
		}
	}
	return l
}

// every is each row of n picks there is.
func every(n int) [][]byte {
	l := [][]byte{nil}
	for range n {
		var longer [][]byte
		for _, row := range l {
			for pick := range byte(4) {
				longer = append(longer, append(slices.Clone(row), pick))
			}
		}
		l = longer
	}
	return l
}

// deed is a call at which the power may go, and what is done to the pool ahead of it.
type deed struct {
	name  string
	parts bool // it may be done in part
	ahead func(g *rig)
	call  func(g *rig) api.Errno
}

func flushing(n int) deed {
	return deed{fmt.Sprintf("Flush %d", n), false, func(g *rig) { g.puts(n) }, func(g *rig) api.Errno { return g.p.Flush(n) }}
}

// gone tells whether a call was done, the power still on.
func (g *rig) gone(err api.Errno) bool {
	g.t.Helper()
	if err != api.OK && err != api.ErrDown {
		g.fatal("error %d where the power goes", err)
	}
	return err == api.OK
}

// again is another rig on a copy of the device.
func (g *rig) again() *rig {
	g.t.Helper()
	h := g.copy()
	h.crash(nil, nil)
	return h
}

// stays holds a pool at which the power has gone against the model: it tells what
// it told; or, where its call may be done in part, fewer pages are dirty.
func (g *rig) stays(parts bool) {
	g.t.Helper()
	if held := g.p.Held(); !slices.Equal(held, g.m.held) {
		g.fatal("without power held are %v, not %v", held, g.m.held)
	}
	for _, n := range g.may() {
		if is := slices.ContainsFunc(g.p.Dirty(), func(x api.Dirt) bool { return x.Page == uint32(n) }); !is && parts {
			g.m.putBack(n)
		}
	}
	if got, want := g.p.Dirty(), g.m.dirts(); !slices.Equal(got, want) {
		g.fatal("without power dirty are %v, not %v", got, want)
	}
	for _, n := range g.m.held {
		x, err := g.p.Get(n)
		if err != api.OK || !same(x, g.m.now[n]) {
			g.fatal("Get %d without power: %s, error %d", n, tell(x), err)
		}
	}
}

// may is the pages that may have become other ones on the device.
func (g *rig) may() []int {
	var l []int
	for n := range g.m.dirty {
		l = append(l, n)
	}
	return l
}

// each does a deed on copies of a rig, with the power going at each operation of
// it; then more is done, which is told at which operation it was.
func (g *rig) each(what deed, more func(h *rig, n int)) {
	g.t.Helper()
	for n := 1; ; n++ {
		h := g.again()
		what.ahead(h)
		h.gives("Arm", h.d.Arm(n), api.OK)
		err := what.call(h)
		h.did("%s, armed with %d: %d", what.name, n, err)
		if h.gone(err) {
			if n < 5 {
				h.fatal("%s is done at %d operations", what.name, n-1)
			}
			return
		}
		h.stays(what.parts)
		more(h, n)
	}
}

// cut does a deed with the power going at each operation of it, and each pattern
// of picks; more is done with what is found.
func cut(t *testing.T, g *rig, what deed, more func(g *rig)) {
	t.Helper()
	g.each(what, func(h *rig, _ int) {
		waits := len(h.d.Waits())
		for _, picks := range patterns(waits) {
			h.copy().crash(h.may(), picks)
		}
		for _, picks := range turns(waits) {
			k := h.copy()
			k.crash(h.may(), picks)
			more(k)
		}
	})
}

// deeds is calls that put pages back; some are ahead of the log.
func deeds() []deed {
	three := func(g *rig) {
		g.puts(0)
		g.put(1, g.next(1, 0))
		g.puts(2)
	}
	l := []deed{
		flushing(1),
		{"Flush of a page that was put back", false, func(g *rig) {
			g.puts(2)
			g.flush(2)
			g.puts(2)
		}, func(g *rig) api.Errno { return g.p.Flush(2) }},
		{"Flush of a page that is not ahead of the log", false, func(g *rig) {
			g.put(0, g.next(0, 0))
		}, func(g *rig) api.Errno { return g.p.Flush(0) }},
		{"Flush of one of three", false, three, func(g *rig) api.Errno { return g.p.Flush(2) }},
		{"FlushAll of three", true, three, func(g *rig) api.Errno { return g.p.FlushAll() }},
		{"FlushAll of one", true, func(g *rig) { g.puts(2) }, func(g *rig) api.Errno { return g.p.FlushAll() }},
	}
	give := func(name string, call func(g *rig) api.Errno) {
		l = append(l, deed{name + " for which one is given up", false, three, call})
	}
	give("Get", func(g *rig) api.Errno {
		_, err := g.p.Get(3)
		return err
	})
	give("Put", func(g *rig) api.Errno { return g.p.Put(3, paper(3, 5000, 0)) })
	give("Pin", func(g *rig) api.Errno { return g.p.Pin(3) })
	return l
}

// scenes is pools behind which such calls come: one on whose device nothing is,
// one whose pages were all put back, and one behind a few calls that were cut off.
func scenes(t *testing.T, at layout) []*rig {
	t.Helper()
	blank := rigged(t, at, 3)
	full := rigged(t, at, 3)
	full.on()
	torn := rigged(t, at, 3)
	torn.on()
	for i := range 4 {
		torn.puts(2)
		torn.puts(3)
		torn.d.Arm(4 + i)
		torn.gives("Flush", torn.p.Flush(2), api.ErrDown)
		torn.crash(torn.may(), []byte{byte(i), byte(i + 1), 3, 0, 1, 2})
	}
	return []*rig{blank, full, torn}
}

// P11.4, P11.5

func TestPowerGoes(t *testing.T) {
	t.Parallel()
	for _, g := range scenes(t, layouts(4)[0]) {
		for _, what := range deeds() {
			cut(t, g, what, (*rig).on)
		}
	}
	for _, at := range layouts(4)[1:] {
		for _, what := range deeds() {
			cut(t, scenes(t, at)[2], what, func(g *rig) {})
		}
	}
}

// FlushAll goes by rising numbers: where a page is found as it was, so are those behind it.
func TestPowerGoesAtFlushAll(t *testing.T) {
	g := small(t, 6, 6)
	g.on()
	what := deed{"FlushAll", true, func(g *rig) {
		for _, n := range []int{5, 0, 3, 2} {
			g.puts(n)
		}
	}, func(g *rig) api.Errno { return g.p.FlushAll() }}
	before := -1
	g.each(what, func(h *rig, n int) {
		back := 0
		for _, picks := range turns(len(h.d.Waits())) {
			k := h.copy()
			k.crash(h.may(), picks)
			old := false
			for _, n := range []int{0, 2, 3, 5} {
				isNow := same(k.m.back[n], h.m.now[n])
				if old && isNow {
					k.fatal("the page %d is put back ahead of another one", n)
				}
				old = !isNow
				if isNow {
					back++
				}
			}
		}
		if back < before {
			h.fatal("fewer pages are put back at a later operation")
		}
		before = back
	})
	if before == 0 {
		t.Error("nothing is ever put back")
	}
}

// All picks there are, at the operations at which few enough sectors wait.
func TestPowerGoesWithAllPicks(t *testing.T) {
	for _, g := range scenes(t, layouts(4)[1]) {
		g.each(deeds()[1], func(h *rig, _ int) {
			for _, picks := range every(min(5, len(h.d.Waits()))) {
				h.copy().crash(h.may(), picks)
			}
		})
	}
}

// P11.1, P11.5: the power goes at each operation of Mend, and at the next one's

// mends is what Mend finds behind a crash where it is cut off at each of its
// operations, with some picks, as often as deep says; then it is not.
func (g *rig) mends(may []int, deep int, some func(n int) [][]byte) {
	g.t.Helper()
	for n := 1; deep > 0; n++ {
		h := g.copy()
		h.gives("Arm", h.d.Arm(n), api.OK)
		err := pool.Mend(h.d, h.at.a)
		h.did("Mend, armed with %d: %d", n, err)
		if h.gone(err) {
			break
		}
		for _, picks := range some(len(h.d.Waits())) {
			k := h.copy()
			k.gives("Crash", k.d.Crash(picks), api.OK)
			k.did("Crash %v", picks)
			k.mends(may, deep-1, some)
		}
	}
	h := g.copy()
	h.mend()
	was := sectors(g.t, h.d)
	h.mend()
	if !bytes.Equal(was, sectors(g.t, h.d)) {
		h.fatal("Mend of what Mend has made whole has changed a sector")
	}
	h.found(may)
}

// mending does a deed that is cut off, with some picks, and then Mend.
func (g *rig) mending(what deed, deep int, some func(n int) [][]byte) {
	g.t.Helper()
	g.each(what, func(h *rig, _ int) {
		for _, picks := range some(len(h.d.Waits())) {
			k := h.copy()
			k.gives("Crash", k.d.Crash(picks), api.OK)
			k.did("Crash %v", picks)
			k.mends(h.may(), deep, some)
		}
	})
}

func TestPowerGoesAtMend(t *testing.T) {
	t.Parallel()
	for i, at := range layouts(4) {
		for _, g := range scenes(t, at) {
			for k, what := range deeds() {
				switch {
				case i == 0 && k == 1:
					g.mending(what, 1, turns)
				case i == 0 || k == 0:
					g.mending(what, 1, few)
				}
			}
		}
	}
}

func TestPowerGoesAtMendAfterMend(t *testing.T) {
	t.Parallel()
	for _, g := range scenes(t, layouts(4)[2])[1:] {
		g.mending(deeds()[1], 2, few)
	}
}

// Mend of an area that has fewer pages writes none that is not among them.
func TestMendOfFewerPages(t *testing.T) {
	for _, at := range layouts(4) {
		g := rigged(t, at, 2)
		g.on()
		g.each(flushing(3), func(h *rig, _ int) {
			h.gives("Crash", h.d.Crash([]byte{1, 1, 2}), api.OK)
			was := sectors(t, h.d)
			fewer := at.a
			fewer.Pages = 3
			h.gives("Mend", pool.Mend(h.d, fewer), api.OK)
			if last := (at.a.Base + 12) * 128; !bytes.Equal(was[last:last+512], sectors(t, h.d)[last:last+512]) {
				h.fatal("Mend has written a page that is not among the area's")
			}
			h.mend()
			h.found(h.may())
		})
	}
}

// Bits of the spare sectors that were turned ahead of Mend, the page being as it
// was, make no page that nobody put.
func TestSpareSectorsThatWereTurned(t *testing.T) {
	g := small(t, 4, 2)
	g.on()
	g.each(flushing(1), func(h *rig, _ int) {
		h.gives("Crash", h.d.Crash(nil), api.OK)
		for at := range 5 * 8 {
			k := h.copy()
			b, err := k.d.Read(k.at.a.Spare + at/8)
			k.gives("Read", err, api.OK)
			b[at%8*16] ^= 16
			k.gives("Write", k.d.Write(k.at.a.Spare+at/8, b), api.OK)
			k.gives("Sync", k.d.Sync(), api.OK)
			k.mend()
			k.found(k.may())
		}
	})
}

// What Mend finds does not hang on the power's going at it: it is found as it is
// without that.
func TestMendComesToTheSameEnd(t *testing.T) {
	for _, g := range scenes(t, layouts(4)[0]) {
		g.each(flushing(1), func(h *rig, _ int) {
			for _, picks := range turns(len(h.d.Waits())) {
				k := h.copy()
				k.gives("Crash", k.d.Crash(picks), api.OK)
				once := k.copy()
				once.mend()
				want, err := page.Read(once.d, once.at.a.Base, 1)
				once.gives("page.Read", err, api.OK)
				for n := range 20 {
					k.d.Arm(1 + n%8)
					if pool.Mend(k.d, k.at.a) == api.OK {
						k.d.Arm(0)
					}
					k.d.Crash([]byte{byte(n), byte(n / 2), byte(n / 3), 1})
				}
				k.mend()
				x, err := page.Read(k.d, k.at.a.Base, 1)
				if err != api.OK || !same(x, want) {
					k.fatal("Mend that was cut off has made the page %s, error %d, not %s", tell(x), err, tell(want))
				}
			}
		})
	}
}

// A page in which a sum tells nothing: whatever two versions of it were cut off,
// no mix of them is ever found.
func TestMixesOfTwoVersions(t *testing.T) {
	t.Parallel()
	for _, first := range scenes(t, layouts(4)[0])[1:] {
		first.each(flushing(2), func(h *rig, n int) {
			for _, picks := range turns(len(h.d.Waits())) {
				k := h.copy()
				k.crash(h.may(), picks)
				k.each(flushing(2), func(h *rig, n int) {
					for _, picks := range turns(len(h.d.Waits())) {
						h.copy().crash(h.may(), picks)
					}
				})
			}
		})
	}
}

// P11.5: where the page is put back the log ends beyond its Lsn, also where it is on another device.
func TestLogBehindThePages(t *testing.T) {
	for n := 1; n < 12; n++ {
		for _, picks := range turns(2) {
			g, ld := parted(t, 3, 17, 2)
			g.append()
			lsn := g.append()
			g.put(1, g.next(1, lsn))
			ld.Arm(n)
			err := g.p.Flush(1)
			finished := g.gone(err)
			ld.Crash(picks)
			l, err := wal.Open(ld, 0, ring)
			g.gives("wal.Open", err, api.OK)
			x, err := page.Read(g.d, g.at.a.Base, 1)
			g.gives("page.Read", err, api.OK)
			if finished != same(x, g.m.now[1]) || finished && l.End() < g.m.lsns[lsn] {
				g.fatal("Flush is done: %v; the page is %s, the log ends at %d", finished, tell(x), l.End())
			}
		}
	}
}

// All of it, drawn, against the slow model

// act does one call, drawn, with the power on.
func act(r *rand.Rand, g *rig) {
	g.t.Helper()
	n := r.Intn(g.at.a.Pages)
	if r.Intn(20) == 0 {
		n = r.Intn(g.at.a.Pages+4) - 2
	}
	switch r.Intn(12) {
	case 0, 1, 2:
		g.get(n)
	case 3, 4, 5:
		g.put(n, g.next(n, g.lsn(r)))
	case 6:
		g.pin(n)
	case 7, 8:
		if l := slices.Sorted(maps.Keys(g.m.pins)); len(l) > 0 && r.Intn(4) > 0 {
			n = l[r.Intn(len(l))]
		}
		g.unpin(n)
	case 9:
		g.flush(n)
	case 10:
		g.append()
		if r.Intn(3) == 0 {
			g.gives("log's Flush", g.l.Flush(), api.OK)
		}
	case 11:
		if r.Intn(3) == 0 {
			g.flushAll()
		}
	}
	g.past = g.past[max(0, len(g.past)-60):]
}

// armed does one call, drawn, with the power perhaps going at it, then a crash,
// and Mend, perhaps cut off some times.
func armed(r *rand.Rand, g *rig) {
	g.t.Helper()
	n, at := r.Intn(g.at.a.Pages), 1+r.Intn(25)
	g.gives("Arm", g.d.Arm(at), api.OK)
	var err api.Errno
	kind := r.Intn(5)
	switch kind {
	case 0:
		_, err = g.p.Get(n)
	case 1:
		err = g.p.Pin(n)
	case 2:
		err = g.p.Flush(n)
	case 3:
		err = g.p.FlushAll()
	case 4:
		x := g.next(n, 0)
		if err = g.p.Put(n, clone(x)); err == api.OK {
			g.m.now[n] = x
			if _, dirty := g.m.dirty[n]; !dirty {
				g.m.dirty[n] = 0
			}
		}
	}
	g.did("%d of the page %d, armed with %d: %d", kind, n, at, err)
	switch err {
	case api.OK:
		if kind == 1 {
			g.m.pins[n]++
		}
		g.given()
		if kind == 3 {
			n = -1
		}
		if kind >= 2 && kind <= 3 {
			for _, k := range g.may() {
				if k == n || n < 0 {
					g.m.putBack(k)
				}
			}
		}
		g.agrees()
	case api.ErrBusy:
		g.alike()
	case api.ErrDown:
		g.stays(kind == 3)
	default:
		g.fatal("error %d", err)
	}
	picks := func() []byte {
		b := make([]byte, r.Intn(12))
		r.Read(b)
		return b
	}
	may := g.may()
	p := picks()
	g.gives("Crash", g.d.Crash(p), api.OK)
	g.did("Crash %v", p)
	for range r.Intn(4) {
		at, p := 1+r.Intn(8), picks()
		g.gives("Arm", g.d.Arm(at), api.OK)
		err := pool.Mend(g.d, g.at.a)
		g.gone(err)
		g.gives("Crash", g.d.Crash(p), api.OK)
		g.did("Mend, armed with %d: %d, Crash %v", at, err, p)
	}
	g.mend()
	g.found(may)
}

func TestDrawnCallsAndCrashes(t *testing.T) {
	t.Parallel()
	r := rand.New(rand.NewSource(6))
	for range 300 {
		pages := 1 + r.Intn(9)
		all := layouts(pages)
		g := rigged(t, all[r.Intn(len(all))], 1+r.Intn(6))
		for range 120 {
			if r.Intn(10) == 0 {
				armed(r, g)
				continue
			}
			act(r, g)
		}
		g.flushAll()
		g.crash(nil, nil)
	}
}
