package space_test

import (
	"fmt"
	"math"
	"math/rand"
	"slices"
	"testing"

	"vicinage/api"
	"vicinage/disk"
	"vicinage/kernel"
	"vicinage/space"
)

// P13.1
func TestMaps(t *testing.T) {
	for pages, want := range map[int]int{math.MinInt: 0, -4001: 0, -1: 0, 0: 0, 1: 1, 2: 1, 3999: 1, 4000: 1, 4001: 2, 7999: 2, 8000: 2, 8001: 3, 12000: 3, 12001: 4, math.MaxInt: math.MaxInt/4000 + 1} {
		if n := space.Maps(pages); n != want {
			t.Errorf("Maps of %d: %d, not %d", pages, n, want)
		}
	}
}

// P13.1: the map's own pages are in use, no other one; those are left alone.
func TestInit(t *testing.T) {
	for _, pages := range []int{1, 2, 3, 7, 8, 9, 3999, 4000, 4001, 8000, 8001, 12000} {
		g := blank(t, roomy(pages, 4))
		g.begin()
		for n := own(pages); n < pages; n += 1 + pages/5 {
			g.write(n, g.fresh())
		}
		g.init()
		g.agrees()
		g.end()
		g.agrees()
		first, _ := g.k.Read(0)
		want := make([]byte, 500)
		want[0] = []byte{1, 3, 7}[own(pages)-1]
		if string(first) != string(want) {
			t.Errorf("%d pages: the map begins with %x", pages, first[:8])
		}
	}
}

// P13.1: whatever stood in the map's pages.
func TestInitOverOthers(t *testing.T) {
	for _, pages := range []int{1, 9, 4000, 4001, 8001} {
		g := blank(t, roomy(pages, 4))
		g.begin()
		for n := range own(pages) {
			b := g.fresh()
			if err := g.k.Write(n, []byte(b)); err != api.OK {
				t.Fatal(err)
			}
		}
		g.end()
		g.begin()
		g.init()
		g.end()
		g.agrees()
	}
}

// P13.1: an Init behind others makes the map empty.
func TestInitAnew(t *testing.T) {
	for _, pages := range []int{1, 6, 4003} {
		g := rigged(t, roomy(pages, 4))
		g.begin()
		for range min(pages, 20) {
			if n := g.alloc(); n > 0 {
				g.write(n, g.fresh())
			}
		}
		g.init()
		g.agrees()
		g.end()
		g.begin()
		g.alloc()
		g.agrees()
		g.cancel()
		g.agrees()
	}
}

// filled lets all pages of a new kernel be handed out, which were written ahead.
func filled(t *testing.T, c api.Config, junk int) *rig {
	t.Helper()
	g := rigged(t, c)
	rest := c.Pages - own(c.Pages)
	for i := range rest {
		if g.act == nil {
			g.begin()
		}
		if i < junk {
			g.write(c.Pages-1-i, g.fresh())
		}
		if i%200 == 10 || i == junk-1 {
			g.end()
			g.tidy()
		}
	}
	for i := range rest {
		if g.act == nil {
			g.begin()
		}
		if n := g.alloc(); n < 0 {
			g.fatal("no page, the %dth time", i)
		}
		if i < 100 || i == rest-1 {
			g.isUsed()
		}
		if i%200 == 150 {
			g.end()
			g.tidy()
		}
	}
	if g.act == nil {
		g.begin()
	}
	return g
}

// P13.2, P13.4: all pages that are not the map's are handed out, once, and are noughts.
func TestAllocAll(t *testing.T) {
	for _, pages := range []int{1, 2, 6, 8, 9, 17, 100, 3999, 4000, 4001, 4002, 4009, 8000, 8001, 12000} {
		t.Run(fmt.Sprint(pages), func(t *testing.T) {
			t.Parallel()
			g := filled(t, roomy(pages, 4), min(pages-own(pages), 300))
			for range 3 {
				if n := g.alloc(); n != -1 {
					t.Fatal("one more page", n)
				}
			}
			g.agrees()
			g.end()
			g.agrees()
		})
	}
}

// P13.2, P13.4: a page that was freed is handed out again, and no other one.
func TestFreeAll(t *testing.T) {
	for _, pages := range []int{2, 6, 17, 4001, 4010, 8001} {
		t.Run(fmt.Sprint(pages), func(t *testing.T) {
			t.Parallel()
			g := filled(t, roomy(pages, 3), 0)
			m := own(pages)
			for _, n := range []int{m, pages - 1, (m + pages) / 2, min(3999, pages-1), min(4000, pages-1), min(4007, pages-1), min(7, pages-1), min(8, pages-1)} {
				if n < m {
					continue
				}
				g.write(n, g.fresh())
				g.free(n)
				g.agrees()
				g.free(n)
				if got := g.alloc(); got != n {
					g.fatal("Alloc: %d, not %d, the one that was freed", got, n)
				}
				g.agrees()
				g.alloc()
			}
			// All of them, in a drawn order.
			for i, n := range rand.New(rand.NewSource(5)).Perm(pages) {
				g.free(n)
				if i%150 == 100 {
					g.end()
					g.tidy()
					g.begin()
				}
			}
			g.isUsed()
			if used, _ := space.Used(g.k); used != 0 {
				t.Fatal("Used", used)
			}
			g.agrees()
		})
	}
}

// P13.2: what Free refuses, and that it changes nothing then.
func TestFreeRefused(t *testing.T) {
	for _, pages := range []int{1, 2, 6, 4000, 4001, 8001} {
		g := rigged(t, roomy(pages, 4))
		g.begin()
		g.alloc()
		m := own(pages)
		was := g.k.Left()
		for _, n := range []int{math.MinInt, -4000, -2, -1, 0, m - 1, m, m + 1, m + 7, m + 8, 3999, 4000, 4001, pages - 1, pages, pages + 1, 12000, 1 << 31, math.MaxInt} {
			if n >= 0 && n < pages && g.now().in[n] && n >= m {
				continue
			}
			g.free(n)
			g.isUsed()
			g.isIn(n)
		}
		if g.k.Left() != was {
			t.Errorf("%d pages: something was written", pages)
		}
		g.agrees()
		if pages > m {
			n := slices.Index(g.now().in[m:], true) + m
			g.free(n)
			g.free(n)
			g.free(n)
			g.agrees()
		}
	}
}

// P13.3
func TestIn(t *testing.T) {
	for _, pages := range []int{1, 2, 6, 4000, 4001, 8001} {
		g := rigged(t, roomy(pages, 2))
		g.begin()
		g.alloc()
		g.alloc()
		for _, n := range []int{math.MinInt, -8001, -2, -1, 0, 1, 2, 3, 4, 7, 8, 3998, 3999, 4000, 4001, 8000, pages - 2, pages - 1, pages, pages + 1, 12000, 1 << 32, math.MaxInt} {
			g.isIn(n)
		}
		g.end()
		for n := -3; n < 20; n++ {
			g.isIn(n)
		}
	}
}

// P13.3: the bits of the map, written by the kernel alone.
func TestBits(t *testing.T) {
	const pages = 8003
	g := rigged(t, roomy(pages, 4))
	r := rand.New(rand.NewSource(3))
	g.begin()
	for i := range own(pages) {
		for n := i * 4000; n < min((i+1)*4000, pages); n++ {
			g.now().in[n] = n < own(pages) || r.Intn(3) > 0
		}
		b := g.now().body(i)
		if err := g.k.Write(i, []byte(b)); err != api.OK {
			t.Fatal(err)
		}
	}
	g.agrees()
	for range 30 {
		g.alloc()
		g.free(r.Intn(pages))
		g.isUsed()
	}
	g.agrees()
}

// call is a call of the package.
type call struct {
	name string
	does func(k *kernel.Kernel) (zero bool, err api.Errno)
}

func writing() []call {
	l := []call{
		{"Init", func(k *kernel.Kernel) (bool, api.Errno) { return true, space.Init(k) }},
		{"Alloc", func(k *kernel.Kernel) (bool, api.Errno) {
			n, err := space.Alloc(k)
			return n == 0, err
		}},
	}
	for _, n := range []int{math.MinInt, -1, 0, 1, 2, 3, 5, 6, 7, math.MaxInt} {
		l = append(l, call{fmt.Sprintf("Free %d", n), func(k *kernel.Kernel) (bool, api.Errno) { return true, space.Free(k, n) }})
	}
	return l
}

func reading() []call {
	l := []call{{"Used", func(k *kernel.Kernel) (bool, api.Errno) {
		n, err := space.Used(k)
		return n == 0, err
	}}}
	for _, n := range []int{math.MinInt, -1, 0, 1, 2, 3, 5, 6, 7, math.MaxInt} {
		l = append(l, call{fmt.Sprintf("In %d", n), func(k *kernel.Kernel) (bool, api.Errno) {
			in, err := space.In(k, n)
			return !in, err
		}})
	}
	return l
}

// tells ends the test, if one of the calls does not answer an error, and nothing else.
func (g *rig) tells(l []call, want api.Errno) {
	g.t.Helper()
	for _, c := range l {
		zero, err := c.does(g.k)
		if err != want || !zero {
			g.fatal("%s: error %d, not %d; nothing else: %v", c.name, err, want, zero)
		}
	}
}

// Of no kernel ErrNil, ahead of all.
func TestNoKernel(t *testing.T) {
	for _, k := range []*kernel.Kernel{nil, {}} {
		g := &rig{t: t, k: k}
		g.tells(writing(), api.ErrNil)
		g.tells(reading(), api.ErrNil)
	}
}

// Where no action is open ErrState, ahead of ErrArg, ErrNone and ErrFull.
func TestNoAction(t *testing.T) {
	g := rigged(t, roomy(6, 2))
	check := func() {
		t.Helper()
		left := g.k.Left()
		g.tells(writing(), api.ErrState)
		g.agrees()
		if g.k.Left() != left {
			g.fatal("something was written")
		}
	}
	check()
	g.begin()
	g.alloc()
	g.alloc()
	g.free(g.alloc())
	g.end()
	check()
	g.begin()
	for range 5 {
		g.alloc()
	}
	g.cancel()
	check()
	g.begin()
	for range 5 {
		g.alloc()
	}
	g.end()
	check()
	b := blank(t, roomy(6, 2))
	b.tells(writing(), api.ErrState)
}

// Once the device told an error ErrDown, with an action open and with none.
func TestDown(t *testing.T) {
	for _, open := range []bool{false, true} {
		g := rigged(t, roomy(6, 2))
		g.begin()
		g.alloc()
		g.end()
		if open {
			g.begin()
			g.alloc()
		}
		g.gives("Arm", g.d.Arm(1), api.OK)
		g.gives("Sync", g.d.Sync(), api.ErrDown)
		for n := range 6 {
			if _, err := g.k.Read(n); err == api.ErrDown {
				break
			}
		}
		g.tells(writing(), api.ErrDown)
		g.tells(reading(), api.ErrDown)
	}
}

// Cancel: all is as it was.
func TestCancel(t *testing.T) {
	for _, pages := range []int{2, 6, 17, 4001} {
		g := rigged(t, roomy(pages, 2))
		r := rand.New(rand.NewSource(int64(pages)))
		for i := range 12 {
			left := g.k.Left()
			g.begin()
			for range r.Intn(12) {
				g.some(r)
			}
			g.isUsed()
			if i%4 == 3 {
				g.end()
				continue
			}
			g.cancel()
			g.agrees()
			if g.k.Left() != left {
				g.fatal("Left: %d, not %d", g.k.Left(), left)
			}
		}
	}
}

// some is a call in an open action, drawn.
func (g *rig) some(r *rand.Rand) {
	g.t.Helper()
	pages := g.c.Pages
	if g.k.Left()-g.k.Keep() < 3000 {
		return
	}
	switch x := r.Intn(20); {
	case x < 8:
		n := g.alloc()
		if n > 0 && r.Intn(2) == 0 {
			g.write(n, g.fresh())
		}
	case x < 14:
		g.free(r.Intn(pages+2) - 1)
	case x < 16:
		if m := own(pages); m < pages {
			g.write(m+r.Intn(pages-m), g.fresh())
		}
	case x < 17 && r.Intn(8) == 0:
		g.init()
	case x < 18:
		g.isUsed()
	default:
		g.isIn(r.Intn(pages+2) - 1)
	}
}

// P13.4, P1: drawn calls, cancels and crashes against the model.
func TestDrawn(t *testing.T) {
	configs := []api.Config{{Ring: 100, Pages: 1, Frames: 1}, {Ring: 100, Pages: 2, Frames: 1}, {Ring: 100, Pages: 6, Frames: 1}, {Ring: 300, Pages: 6, Frames: 3}, {Ring: 400, Pages: 30, Frames: 2}, {Ring: 300, Pages: 4003, Frames: 3}}
	for i, c := range configs {
		t.Run(fmt.Sprint(c), func(t *testing.T) {
			t.Parallel()
			runs := 12
			if c.Pages > 100 {
				runs = 1
			}
			for run := range runs {
				g := rigged(t, c)
				r := rand.New(rand.NewSource(int64(100*i + run)))
				for range 60 {
					g.deed(r)
				}
			}
		})
	}
}

// deed is an action, a commit or a crash, drawn.
func (g *rig) deed(r *rand.Rand) {
	g.t.Helper()
	if g.k.Left()-g.k.Keep() < 4500 {
		g.tidy()
	}
	switch x := r.Intn(12); {
	case x == 0:
		g.commit()
	case x == 1:
		if r.Intn(2) == 0 {
			g.begin()
			g.some(r)
		}
		n := len(g.d.Waits())
		picks := make([]byte, n)
		for i := range picks {
			picks[i] = byte(r.Intn(4))
		}
		g.crash(picks)
	case x == 2:
		g.agrees()
	case x == 3:
		g.tidy()
	default:
		g.begin()
		for range r.Intn(8) {
			g.some(r)
		}
		if r.Intn(3) == 0 {
			g.cancel()
		} else {
			g.end()
		}
	}
	if g.c.Pages < 100 {
		g.agrees()
	}
}

// What the log has no room for: ErrFull, and which pages are in use stays as it was.
func TestLogFull(t *testing.T) {
	for _, junk := range []bool{false, true} {
		for fill := range 80 {
			g := rigged(t, api.Config{Ring: 64, Pages: 6, Frames: 2})
			if junk {
				g.begin()
				for n := 1; n < 6; n++ {
					g.write(n, g.fresh())
				}
				g.end()
				g.tidy()
				g.begin()
				if n := g.alloc(); n > 0 {
					g.write(n, g.fresh())
				}
				g.end()
				g.tidy()
			}
			g.fullTo(20 * fill)
			g.begin()
			for range 6 {
				was := g.now().copy()
				n, err := space.Alloc(g.k)
				if err == api.ErrFull {
					if n != 0 {
						t.Fatal("beside ErrFull", n)
					}
					break
				}
				g.gives("Alloc", err, api.OK)
				was.in[n], was.bodies[n] = true, noughts
				*g.now() = was
			}
			g.isUsed()
			for n := range 6 {
				g.isIn(n)
			}
			for n := range 6 {
				was := g.now().copy()
				switch err := space.Free(g.k, n); err {
				case api.OK:
					was.in[n] = false
				case api.ErrFull, api.ErrArg, api.ErrNone:
				default:
					g.gives("Free", err, api.OK)
				}
				*g.now() = was
				g.isIn(n)
				g.isUsed()
			}
			g.cancel()
			g.agrees()
		}
	}
}

// fullTo fills the log, but for so many bytes, and some few.
func (g *rig) fullTo(left int) {
	g.t.Helper()
	for size := 450; size > 0; {
		if g.k.Left()-g.k.Keep() >= left+2*size && g.fills(size) {
			continue
		}
		size -= min(30, (size+1)/2)
	}
}

// fills writes so many bytes, if the log has room for them.
func (g *rig) fills(size int) bool {
	g.t.Helper()
	g.begin()
	b := g.now().bodies[5]
	b = g.fresh()[:size] + b[size:]
	if g.k.Write(5, []byte(b)) == api.OK && g.k.End(0, nil) == api.OK {
		g.now().bodies[5] = b
		g.ended()
		return true
	}
	g.cancel()
	return false
}

// P12.3 with P13.2: Alloc, as Free, writes few enough pages, once each, that it may undo.
func TestUndoing(t *testing.T) {
	for _, alloc := range []bool{false, true} {
		g := rigged(t, api.Config{Ring: 120, Pages: 6, Frames: 2})
		g.begin()
		for n := 1; n < 6; n++ {
			g.write(n, g.fresh())
		}
		g.end()
		g.tidy()
		g.begin()
		n := g.alloc()
		g.endFor(7, "u")
		g.begin()
		g.free(n)
		g.write(n, g.fresh())
		if !alloc {
			n = g.alloc()
		}
		g.end()
		g.fullTo(0)
		g.agrees()
		g.gives("BeginUndo", g.k.BeginUndo(7), api.OK)
		s := g.now().copy()
		g.act = &s
		if alloc {
			g.alloc()
		} else {
			g.free(n)
		}
		g.gives("EndUndo", g.k.EndUndo(), api.OK)
		g.ended()
		g.agrees()
	}
}

// P1: two kernels know nothing of each other, and an answer hangs on nothing else.
func TestTwo(t *testing.T) {
	a, b := rigged(t, roomy(6, 2)), rigged(t, roomy(9, 2))
	a.begin()
	b.begin()
	for range 4 {
		a.alloc()
	}
	b.agrees()
	b.alloc()
	b.alloc()
	a.free(2)
	b.free(1)
	a.agrees()
	b.agrees()
	a.cancel()
	b.end()
	a.agrees()
	b.agrees()
}

// The chapter's examples.
func TestExamples(t *testing.T) {
	c := api.Config{Ring: 100, Pages: 6, Frames: 2}
	d, _ := disk.New(kernel.Sectors(c), kernel.Sectors(c))
	k, err := kernel.Make(d, c)
	if err != api.OK || k.Begin() != api.OK || space.Init(k) != api.OK {
		t.Fatal("Init")
	}
	if n, err := space.Used(k); n != 0 || err != api.OK {
		t.Error("Used", n, err)
	}
	var l []int
	for range 5 {
		n, err := space.Alloc(k)
		if err != api.OK {
			t.Error("Alloc", err)
		}
		l = append(l, n)
	}
	slices.Sort(l)
	if !slices.Equal(l, []int{1, 2, 3, 4, 5}) {
		t.Error("five pages", l)
	}
	if n, err := space.Alloc(k); n != 0 || err != api.ErrFull {
		t.Error("one more", n, err)
	}
	if err := space.Free(k, 3); err != api.OK {
		t.Error("Free 3", err)
	}
	if n, err := space.Alloc(k); n != 3 || err != api.OK {
		t.Error("Alloc", n, err)
	}
	if err := space.Free(k, 0); err != api.ErrArg {
		t.Error("Free 0", err)
	}
	if a, b := space.Free(k, 3), space.Free(k, 3); a != api.OK || b != api.ErrNone {
		t.Error("Free 3, twice", a, b)
	}
	if space.Maps(4000) != 1 || space.Maps(4001) != 2 {
		t.Error("Maps")
	}
}
