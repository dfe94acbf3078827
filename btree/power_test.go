package btree_test

import (
	"slices"
	"testing"

	"vicinage/api"
)

// turns is picks for n sectors that wait: none of them is kept, all, a half, and by turns.
func turns(n int) [][]byte {
	var l [][]byte
	for _, some := range [][]byte{{0}, {1}, {2}, {3}, {0, 1}, {1, 0}, {3, 2}, {0, 1, 2, 3}} {
		l = append(l, slices.Repeat(some, n)[:n])
	}
	return l
}

// P15.4: the power goes at each operation of actions: each of them is whole or not at all.
func TestPower(t *testing.T) {
	for i, deed := range deeds() {
		t.Run(deed.name, func(t *testing.T) {
			t.Parallel()
			for n := 1; ; n++ {
				g, roots := withTrees(t, api.Config{Ring: 400, Pages: 20, Frames: 1 + i%2*4}, 2)
				g.scene(roots)
				g.gives("Arm", g.d.Arm(n), api.OK)
				g.armed = true
				g.did("Arm %d", n)
				deed.calls(g, roots)
				if g.down {
					for what, err := range calls(g.k, roots[0]) {
						if err != api.ErrDown {
							g.fatal("%s, the power is off: %d", what, err)
						}
					}
				}
				for j, picks := range turns(len(g.d.Waits())) {
					if n > 60 && (j+n)%4 > 0 {
						continue
					}
					h := g.copy()
					h.crash(picks)
					if (j+n)%8 == 0 {
						h.goesOn(roots)
					}
				}
				if !g.down {
					return
				}
			}
		})
	}
}

// scene puts some keys into two trees: the one is a full page, the other one three pages.
func (g *rig) scene(roots []int) {
	g.t.Helper()
	g.begin()
	g.puts(roots[0], 30)
	g.puts(roots[1], 31)
	g.end()
	g.tidy()
}

// goesOn lets keys come and go.
func (g *rig) goesOn(roots []int) {
	g.t.Helper()
	g.tidy()
	g.begin()
	g.put(roots[0], 7, 8)
	g.put(roots[1], 7, 9)
	g.end()
	g.commit()
	g.agrees()
	g.begin()
	for _, root := range roots {
		for _, key := range g.now().keys(root) {
			g.remove(root, key)
		}
	}
	g.end()
	g.commit()
	g.crash(nil)
}

// deed is calls at which the power may go.
type deed struct {
	name  string
	calls func(g *rig, roots []int)
}

func deeds() []deed {
	return []deed{
		{"a Put that splits the root", func(g *rig, roots []int) {
			g.begin()
			g.put(roots[0], 33, 1)
			g.end()
			g.commit()
		}},
		{"Puts and Deletes, an action each", func(g *rig, roots []int) {
			for key := range uint64(4) {
				g.begin()
				g.put(roots[key%2], 100*key+1, key)
				g.end()
				g.begin()
				g.remove(roots[key%2], key+3)
				g.get(roots[key%2], key+3)
				g.end()
			}
			g.commit()
		}},
		{"Deletes till pages become one", func(g *rig, roots []int) {
			for key := range uint64(14) {
				g.begin()
				g.remove(roots[1], key)
				g.end()
			}
			g.tidy()
		}},
		{"an action that empties a tree", func(g *rig, roots []int) {
			g.begin()
			for _, key := range g.now().keys(roots[1]) {
				g.remove(roots[1], key)
			}
			g.end()
			g.commit()
		}},
		{"one that is cancelled", func(g *rig, roots []int) {
			g.begin()
			g.put(roots[0], 33, 1)
			g.remove(roots[1], 20)
			g.cancel()
			g.begin()
			g.remove(roots[0], 20)
			g.end()
			g.commit()
		}},
		{"a tree that is made", func(g *rig, roots []int) {
			g.begin()
			root := g.make()
			g.put(root, 4, 5)
			g.end()
			g.tidy()
		}},
		{"questions, where pages are given up", func(g *rig, roots []int) {
			g.begin()
			g.put(roots[1], 100, 2)
			g.put(roots[1], 201, 2)
			g.put(roots[0], 33, 2)
			g.end()
			g.get(roots[0], 20)
			g.scan(roots[1], 0, 100)
			g.countPages(roots[0])
			g.tidy()
			g.agrees()
		}},
		{"an action that is open", func(g *rig, roots []int) {
			g.commit()
			g.begin()
			g.remove(roots[1], 10)
			g.put(roots[0], 33, 1)
			g.agrees()
		}},
	}
}

// P15.4: crashes behind each of many ended actions.
func TestCrashes(t *testing.T) {
	t.Parallel()
	g, roots := withTrees(t, api.Config{Ring: 1000, Pages: 40, Frames: 2}, 2)
	for i := range uint64(24) {
		g.begin()
		for j := range uint64(9) {
			key := (i*31 + j*17) % 200
			g.put(roots[0], key, i)
			g.put(roots[1], 200-key, i)
			if i > 12 {
				g.remove(roots[1], 7*key)
				g.remove(roots[0], 3*key)
			}
		}
		g.end()
		if i%3 == 0 {
			g.commit()
		}
		for _, picks := range turns(len(g.d.Waits())) {
			h := g.copy()
			h.crash(picks)
		}
		if i%4 == 3 {
			g.crash(nil)
			g.tidy()
		}
	}
}
