package space_test

import (
	"slices"
	"testing"

	"vicinage/api"
)

// turns is picks for n sectors that wait: none of them is kept, all, a half, and by turns.
func turns(n int) [][]byte {
	var l [][]byte
	for _, some := range [][]byte{{0}, {1}, {2}, {3}, {0, 1}, {1, 0}, {3, 2}, {0, 1, 2, 3}} {
		l = append(l, slices.Repeat(some, n)[:n])
	}
	return l
}

// copy is a rig that goes its own way on a copy of the device.
func (g *rig) copy() *rig {
	h := *g
	h.d, h.k = g.d.Copy(), nil
	h.told, h.more, h.past = slices.Clone(g.told), slices.Clone(g.more), slices.Clone(g.past)
	return &h
}

// P13.4: the power goes at each operation of actions: each of them is whole or not at all.
func TestPower(t *testing.T) {
	for i, deed := range deeds() {
		t.Run(deed.name, func(t *testing.T) {
			t.Parallel()
			for n := 1; ; n++ {
				g := rigged(t, api.Config{Ring: 100, Pages: 6, Frames: 1 + i%2})
				deed.ahead(g)
				g.gives("Arm", g.d.Arm(n), api.OK)
				g.armed = true
				g.did("Arm %d", n)
				deed.calls(g)
				if g.down {
					g.tells(writing(), api.ErrDown)
					g.tells(reading(), api.ErrDown)
				}
				for _, picks := range turns(len(g.d.Waits())) {
					h := g.copy()
					h.crash(picks)
					h.goesOn()
				}
				if !g.down {
					return
				}
			}
		})
	}
}

// goesOn lets all pages be handed out, and one be given back.
func (g *rig) goesOn() {
	g.t.Helper()
	g.tidy()
	g.begin()
	for g.alloc() >= 0 {
	}
	g.free(2)
	g.end()
	g.commit()
	g.agrees()
	g.crash(nil)
}

// deed is calls at which the power may go, and what is done ahead of them.
type deed struct {
	name         string
	ahead, calls func(g *rig)
}

func deeds() []deed {
	nothing := func(*rig) {}
	some := func(g *rig) {
		g.begin()
		for range 3 {
			if n := g.alloc(); n > 0 {
				g.write(n, string(slices.Repeat([]byte{byte(n)}, 500)))
			}
		}
		g.end()
	}
	return []deed{
		{"an action of Alloc", nothing, func(g *rig) {
			some(g)
			g.commit()
		}},
		{"actions of Free and Alloc", some, func(g *rig) {
			for n := range 4 {
				g.begin()
				g.free(n)
				g.isUsed()
				g.end()
				g.begin()
				g.alloc()
				g.isIn(n)
				g.alloc()
				g.end()
			}
			g.commit()
		}},
		{"one that is cancelled", some, func(g *rig) {
			g.begin()
			g.free(1)
			g.alloc()
			g.alloc()
			g.cancel()
			g.begin()
			g.free(2)
			g.end()
			g.commit()
		}},
		{"Init anew", some, func(g *rig) {
			g.begin()
			g.init()
			g.alloc()
			g.end()
			g.tidy()
		}},
		{"questions, where pages are given up", some, func(g *rig) {
			g.isUsed()
			g.isIn(5)
			g.tidy()
			g.isUsed()
		}},
		{"an action that is open", some, func(g *rig) {
			g.commit()
			g.begin()
			g.alloc()
			g.free(1)
			g.isUsed()
		}},
	}
}

// P13.4: crashes behind each of many actions.
func TestCrashes(t *testing.T) {
	for _, pages := range []int{2, 6, 4005} {
		g := rigged(t, api.Config{Ring: 200, Pages: pages, Frames: 2})
		for i := range 8 {
			g.begin()
			g.alloc()
			g.alloc()
			g.free(own(pages) + i/2)
			g.end()
			if i%3 == 0 {
				g.commit()
			}
			for _, picks := range turns(len(g.d.Waits()))[:1+min(7, 12000/pages)/2] {
				h := g.copy()
				h.crash(picks)
			}
			if i%3 == 2 {
				g.crash(nil)
			}
			g.did("turn %d", i)
		}
	}
}
