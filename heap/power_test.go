package heap_test

import (
	"slices"
	"testing"

	"vicinage/api"
)

// turns is picks for n sectors that wait: none of them is kept, all, a half, and by turns.
func turns(n int) [][]byte {
	var l [][]byte
	for _, some := range [][]byte{{0}, {1}, {2}, {3}, {0, 1}, {1, 0}, {3, 2}, {0, 1, 2, 3}} {
		l = append(l, slices.Repeat(some, n)[:n])
	}
	return l
}

// P14.4: the power goes at each operation of actions: each of them is whole or not at all.
func TestPower(t *testing.T) {
	for i, deed := range deeds() {
		t.Run(deed.name, func(t *testing.T) {
			t.Parallel()
			for n := 1; ; n++ {
				g, roots := withHeaps(t, api.Config{Ring: 400, Pages: 30, Frames: 1 + i%2*4}, 2)
				ids := g.scene(roots)
				g.gives("Arm", g.d.Arm(n), api.OK)
				g.armed = true
				g.did("Arm %d", n)
				deed.calls(g, roots, ids)
				if g.down {
					for what, err := range calls(g.k, roots[0], ids[0], make([]byte, 17701)) {
						if err != api.ErrDown {
							g.fatal("%s, the power is off: %d", what, err)
						}
					}
				}
				for j, picks := range turns(len(g.d.Waits())) {
					if n > 60 && (j+n)%4 > 0 {
						continue
					}
					h := g.copy()
					h.crash(picks)
					if (j+n)%8 == 0 {
						h.goesOn(roots)
					}
				}
				if !g.down {
					return
				}
			}
		})
	}
}

// scene puts some things into two heaps.
func (g *rig) scene(roots []int) []uint64 {
	g.t.Helper()
	var ids []uint64
	g.begin()
	for i, size := range []int{20, 700, 180, 0, 90} {
		ids = append(ids, g.insert(roots[i%2], g.fresh(size)))
	}
	g.end()
	g.tidy()
	return ids
}

// goesOn lets things come and go.
func (g *rig) goesOn(roots []int) {
	g.t.Helper()
	g.tidy()
	g.begin()
	id := g.insert(roots[1], g.fresh(800))
	g.patch(id, 3, "abc")
	g.insert(roots[0], g.fresh(10))
	g.end()
	g.commit()
	g.agrees()
	g.begin()
	for _, id := range g.now().of(roots[0]) {
		g.remove(roots[0], id)
	}
	g.end()
	g.commit()
	g.crash(nil)
}

// deed is calls at which the power may go.
type deed struct {
	name  string
	calls func(g *rig, roots []int, ids []uint64)
}

func deeds() []deed {
	return []deed{
		{"an action of Insert", func(g *rig, roots []int, ids []uint64) {
			g.begin()
			g.insert(roots[0], g.fresh(900))
			g.insert(roots[1], g.fresh(30))
			g.end()
			g.commit()
		}},
		{"actions of Delete and Insert", func(g *rig, roots []int, ids []uint64) {
			for i, id := range ids {
				g.begin()
				g.remove(roots[i%2], id)
				g.read(id)
				g.end()
				g.begin()
				g.insert(roots[i%2], g.fresh(100*i))
				g.end()
			}
			g.commit()
		}},
		{"actions of Patch", func(g *rig, roots []int, ids []uint64) {
			for _, id := range ids {
				g.begin()
				g.patch(id, 0, "x")
				g.end()
			}
			g.tidy()
		}},
		{"one that is cancelled", func(g *rig, roots []int, ids []uint64) {
			g.begin()
			g.remove(roots[1], ids[1])
			g.insert(roots[0], g.fresh(600))
			g.cancel()
			g.begin()
			g.remove(roots[0], ids[0])
			g.end()
			g.commit()
		}},
		{"a heap that is made", func(g *rig, roots []int, ids []uint64) {
			g.begin()
			root := g.make()
			g.insert(root, g.fresh(300))
			g.end()
			g.tidy()
		}},
		{"questions, where pages are given up", func(g *rig, roots []int, ids []uint64) {
			g.begin()
			long := g.insert(roots[0], g.fresh(4000))
			g.end()
			g.read(long)
			g.begin()
			for _, id := range append(ids, long) {
				g.patch(id, 0, "x")
			}
			g.insert(roots[1], g.fresh(300))
			g.end()
			g.read(long)
			g.agrees()
			g.tidy()
			g.agrees()
		}},
		{"an action that is open", func(g *rig, roots []int, ids []uint64) {
			g.commit()
			g.begin()
			g.remove(roots[1], ids[1])
			g.insert(roots[0], g.fresh(600))
			g.agrees()
		}},
	}
}

// P14.4: crashes behind each of many ended actions.
func TestCrashes(t *testing.T) {
	g, roots := withHeaps(t, api.Config{Ring: 1000, Pages: 40, Frames: 2}, 2)
	for i := range 12 {
		g.begin()
		g.insert(roots[i%2], g.fresh(sizes[2*i]))
		id := g.insert(roots[1], g.fresh(150))
		g.patch(id, 10, "abc")
		if ids := g.now().of(roots[0]); i%3 == 2 && len(ids) > 0 {
			g.remove(roots[0], ids[0])
		}
		g.end()
		if i%3 == 0 {
			g.commit()
		}
		for _, picks := range turns(len(g.d.Waits())) {
			h := g.copy()
			h.crash(picks)
		}
		if i%4 == 3 {
			g.crash(nil)
			g.tidy()
		}
	}
}
