package kernel_test

import (
	"fmt"
	"maps"
	"os"
	"runtime/debug"
	"slices"
	"testing"

	"vicinage/api"
	"vicinage/kernel"
)

// TestMain lets memory be taken up more seldom: the tests copy devices all the time.
func TestMain(m *testing.M) {
	debug.SetGCPercent(400)
	os.Exit(m.Run())
}

// turns is picks for n sectors that wait: none of them is kept, all, each half,
// and all of it by turns.
func turns(n int) [][]byte {
	l := [][]byte{nil}
	for _, some := range [][]byte{{1}, {2}, {3}, {0, 1}, {1, 0}, {2, 3}, {3, 2}, {0, 1, 2, 3}, {3, 0, 2, 1}} {
		l = append(l, slices.Repeat(some, n)[:n])
	}
	return l
}

// few is some of turns.
func few(n int) [][]byte {
	l := turns(n)
	return [][]byte{l[0], l[1], l[6], l[8]}
}

// patterns is turns, and each sector alone, and all but one, with one pick or another.
func patterns(n, more int) [][]byte {
	l := turns(n)
	for i := range n {
		a, b := make([]byte, n), slices.Repeat([]byte{1}, n)
		a[i], b[i] = byte(1+(i+more)%3), []byte{0, 2, 3}[(i+more)%3]
		l = append(l, a, b)
	}
	return l
}

// deed is calls at which the power may go, and what is done ahead of them.
type deed struct {
	name  string
	ahead func(g *rig)
	calls func(g *rig)
}

func nothing(*rig) {}

// dirty is actions that do not last yet, and pages that are not put back.
func dirty(g *rig) {
	g.acts(0, "", 0)
	g.acts(7, g.how(), 1, 2)
	g.acts(8, "", 3)
}

// deeds is calls of all kinds.
func deeds() []deed {
	return []deed{
		{"an action, and a commit", nothing, func(g *rig) {
			g.acts(7, g.how(), 0, 1)
			g.commit(7)
		}},
		{"a commit of what was ended", dirty, func(g *rig) { g.commit(7) }},
		{"a commit of nothing", dirty, func(g *rig) { g.commit(9) }},
		{"commits in their order", nothing, func(g *rig) {
			for txn := range uint64(2) {
				g.acts(txn+1, g.how(), int(txn), 4)
				g.acts(0, "", 3)
				g.commit(txn + 1)
			}
		}},
		{"an action of more pages than there are frames", dirty, func(g *rig) {
			g.begin()
			for n := range g.c.Pages {
				g.write(n, g.fresh())
			}
			g.read(0)
			g.read(1)
			g.end(7, g.how())
			g.acts(0, "", 4)
			g.commit(3)
		}},
		{"an undoing", dirty, func(g *rig) {
			g.undoesAll(7)
			g.commit(9)
		}},
		{"a cancelling, when its records last", dirty, func(g *rig) {
			g.begin()
			g.write(2, g.fresh())
			g.read(4)
			g.write(3, g.fresh())
			g.read(0)
			g.read(4)
			g.cancel()
			g.acts(8, g.how(), 3)
			g.commit(7)
		}},
		{"a cancelling of an undoing", dirty, func(g *rig) {
			g.beginUndo(7)
			g.write(1, g.fresh())
			g.read(4)
			g.write(2, g.fresh())
			g.read(0)
			g.cancel()
			g.undoes(7)
			g.clean()
		}},
		{"Clean", dirty, func(g *rig) { g.clean() }},
		{"Point", dirty, func(g *rig) { g.point() }},
		{"Clean and Point, twice", dirty, func(g *rig) {
			g.clean()
			g.point()
			g.acts(0, "", 2)
			g.clean()
			g.point()
		}},
		{"Point and what comes behind it", dirty, func(g *rig) {
			g.commit(7)
			g.doneWith(8)
			g.point()
			g.acts(0, "", 1)
			g.acts(9, g.how(), 0)
			g.point()
			g.commit(9)
			g.point()
		}},
	}
}

// scenes is devices on which they are done: a new one, one with open transactions,
// and one whose ring was gone round.
func scenes(t *testing.T) []*rig {
	t.Helper()
	c := api.Config{Ring: 400, Pages: 5, Frames: 2}
	plain := rigged(t, c)
	busy := rigged(t, c)
	busy.acts(5, busy.how(), 3)
	busy.acts(0, "", 0, 4)
	busy.commit(99)
	round := rigged(t, c)
	for range 16 {
		round.acts(4, "", 0, 1, 3)
		round.commit(4)
		round.clean()
		round.point()
	}
	round.acts(4, round.how(), 4)
	round.commit(99)
	return []*rig{plain, busy, round}
}

// onceMore is another rig on a copy of the device, opened anew.
func (g *rig) onceMore() *rig {
	g.t.Helper()
	h := g.copy()
	h.crash(nil)
	return h
}

// each does a deed with the power going at each operation of it, and hands over
// what is behind that.
func (g *rig) each(what deed, more func(h *rig, n int)) {
	g.t.Helper()
	for n := 1; ; n++ {
		h := g.onceMore()
		what.ahead(h)
		h.gives("Arm", h.d.Arm(n), api.OK)
		h.did("%s, armed with %d", what.name, n)
		what.calls(h)
		if !h.down {
			if n < 3 {
				h.fatal("%s is done at %d operations", what.name, n-1)
			}
			return
		}
		h.dead()
		more(h, n)
	}
}

// goesOn does a few things with what was found: it is there again behind another
// crash, what is open is undone, and new things come.
func (g *rig) goesOn() {
	g.t.Helper()
	g.crash(nil)
	for _, txn := range slices.Sorted(maps.Keys(g.now().open)) {
		g.undoesAll(txn)
	}
	g.acts(6, g.how(), 0, 2)
	g.commit(6)
	g.agrees()
	g.crash(nil)
}

// TestPowerCut: wherever the power goes, and whatever becomes of what waits, just
// the first ones of what was told are there, all that lasts among them.
func TestPowerCut(t *testing.T) {
	for i, g := range scenes(t) {
		for _, what := range deeds() {
			t.Run(fmt.Sprint(i, " ", what.name), func(t *testing.T) {
				t.Parallel()
				g := g.copy()
				g.t = t
				g.each(what, func(h *rig, n int) {
					waits := len(h.d.Waits())
					for i, picks := range patterns(waits, n) {
						k := h.copy()
						k.crash(picks)
						if (i+n)%12 == 0 {
							k.goesOn()
						}
					}
				})
			})
		}
	}
}

// TestOpenCut: Open that is cut off at any of its operations, behind any crash,
// is called anew, and nothing is lost, or done twice; again and again.
func TestOpenCut(t *testing.T) {
	for i, g := range scenes(t) {
		for _, what := range deeds() {
			t.Run(fmt.Sprint(i, " ", what.name), func(t *testing.T) {
				t.Parallel()
				g := g.copy()
				g.t = t
				g.each(what, func(h *rig, n int) {
					l := few(len(h.d.Waits()))
					h.power(l[n%len(l)])
					switch {
					case n%36 == 5*i:
						h.copy().cutOff(2)
					case n%6 == i:
						h.copy().cutOff(1)
					}
					h.oftenCutOff()
				})
			})
		}
	}
}

// cutOff opens with the power going at each operation, and behind each of these
// anew, so many times in one another.
func (g *rig) cutOff(deep int) {
	g.t.Helper()
	for n := 1; ; n++ {
		h := g.copy()
		h.gives("Arm", h.d.Arm(n), api.OK)
		h.did("Arm %d", n)
		if h.opens() {
			if n < 3 {
				h.fatal("Open is done at %d operations", n-1)
			}
			return
		}
		for i, picks := range few(len(h.d.Waits())) {
			k := h.copy()
			k.power(picks)
			if deep > 1 && i == n%4 {
				k.cutOff(deep - 1)
			} else if !k.opens() {
				k.fatal("Open is refused behind a crash")
			}
		}
	}
}

// oftenCutOff opens, cut off at the first operation, then at the second one, and so on.
func (g *rig) oftenCutOff() {
	g.t.Helper()
	for n := 1; ; n++ {
		g.gives("Arm", g.d.Arm(n), api.OK)
		g.did("Arm %d", n)
		if g.opens() {
			break
		}
		l := few(len(g.d.Waits()))
		g.power(l[n%len(l)])
	}
	g.goesOn()
}

// TestMakeCut: Make that is cut off tells ErrDown; then it is called anew.
func TestMakeCut(t *testing.T) {
	c := api.Config{Ring: 40, Pages: 3, Frames: 1}
	for n := 1; ; n++ {
		g := rigged(t, c)
		g.acts(0, "", 0)
		g.clean()
		g.gives("Arm", g.d.Arm(n), api.OK)
		k, err := kernel.Make(g.d, c)
		if err == api.OK {
			if n < 5 {
				t.Fatalf("Make is done at %d operations", n-1)
			}
			return
		}
		if err != api.ErrDown || k != nil {
			t.Fatalf("Make without power: %v, error %d", k, err)
		}
		for _, picks := range turns(len(g.d.Waits())) {
			h := g.copy()
			h.power(picks)
			k, err := kernel.Make(h.d, c)
			h.gives("Make", err, api.OK)
			h.k, h.told = k, []state{blank(c.Pages)}
			h.agrees()
			h.acts(0, "", 1)
			h.crash(nil)
		}
	}
}

// TestLasting: what was committed, and what Point was told behind, is there
// behind any crash, and of what came later the first ones; P12.4, P12.5.
func TestLasting(t *testing.T) {
	for _, frames := range []int{1, 2, 5} {
		g := rigged(t, api.Config{Ring: 100, Pages: 4, Frames: frames})
		g.acts(1, g.how(), 0)
		g.commit(9)
		if len(g.told) != 1 {
			g.fatal("%d may be there", len(g.told))
		}
		g.acts(1, "", 1)
		g.point()
		for _, picks := range turns(20) {
			g.copy().crash(picks)
		}
		g.acts(1, "", 2)
		g.acts(2, "", 3)
		g.read(0)
		g.read(1)
		for _, picks := range turns(20) {
			g.copy().crash(picks)
		}
		// Nothing is flushed by what has no need of it.
		if frames == 5 {
			h := g.copy()
			h.crash(nil)
			if !h.now().equal(g.told[0]) {
				h.fatal("there is more than was made last")
			}
		}
	}
}

// TestEnds: an action of which all records last but its end is not there, even if
// its pages are put back as soon as that may be.
func TestEnds(t *testing.T) {
	for _, pages := range [][]int{{0}, {0, 1}, {1, 0, 2}} {
		for _, txn := range []uint64{0, 9} {
			g := rigged(t, api.Config{Ring: 100, Pages: 9, Frames: 1 + len(pages)})
			g.acts(0, "", 4)
			g.begin()
			for _, n := range pages {
				g.write(n, g.fresh())
			}
			// The page 4 is put back: what there is of the log lasts then.
			for n := 5; n < 9; n++ {
				g.read(n)
			}
			open := g.copy()
			open.crash(nil)
			if !open.now().equal(g.told[1]) {
				open.fatal("the first action alone is to be there")
			}
			g.end(txn, "")
			// Its pages are put back, one after the other: its end must last first.
			for n := 8; n > 2; n-- {
				g.read(n)
				for _, picks := range few(20) {
					g.copy().crash(picks)
				}
			}
		}
	}
}

// TestUndone: a transaction whose actions are all undone, each by writing back
// what it read, leaves the pages as they were, whatever crashes came; P12.7.
func TestUndone(t *testing.T) {
	for _, frames := range []int{1, 2, 6} {
		t.Run(fmt.Sprint(frames), func(t *testing.T) {
			t.Parallel()
			g := rigged(t, api.Config{Ring: 500, Pages: 6, Frames: frames})
			g.acts(0, "", 0, 1, 2)
			g.acts(3, g.how(), 5)
			g.commit(99)
			start := g.now().pages
			g.each(deed{"a transaction, and its undoing", nothing, undoing}, func(h *rig, n int) {
				l := turns(len(h.d.Waits()))
				for _, picks := range [][]byte{l[n%2], l[n%len(l)]} {
					k := h.copy()
					k.crash(picks)
					if _, open := k.now().open[7]; open {
						k.undoneByParts(n)
					}
					if got := k.sees().pages; !slices.Equal(got[:5], start[:5]) {
						k.fatal("the pages are not as they were")
					}
				}
			})
		})
	}
}

// undoing is a transaction of several actions on the same pages, others' among
// them, which are undone.
func undoing(g *rig) {
	for _, pages := range [][]int{{0}, {1, 0}, {2}, {0, 3}} {
		g.acts(7, g.how(), pages...)
		g.acts(3, "", 5)
	}
	g.undoes(7)
	g.acts(7, g.how(), 1)
	g.acts(7, "")
	g.begin()
	g.write(4, g.fresh())
	g.cancel()
	g.point()
	g.undoesAll(7)
	g.clean()
	g.commit(99)
}

// undoneByParts undoes the transaction 7 with the power going in each undoing,
// some operations later each time.
func (g *rig) undoneByParts(n int) {
	g.t.Helper()
	for range 100 {
		g.gives("Arm", g.d.Arm(1+n%40), api.OK)
		g.did("Arm %d", 1+n%40)
		n += 7
		if len(g.now().open[7]) == 0 {
			g.doneWith(7)
			g.commit(99)
		} else {
			g.undoes(7)
			if n%2 == 0 {
				g.commit(99)
			} else {
				g.clean()
			}
		}
		if g.down {
			l := turns(len(g.d.Waits()))
			g.crash(l[n%len(l)])
		}
		g.gives("Arm", g.d.Arm(0), api.OK)
		if _, open := g.now().open[7]; !open {
			return
		}
	}
	g.fatal("the transaction is never undone")
}
