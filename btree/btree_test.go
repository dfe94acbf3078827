package btree_test

import (
	"fmt"
	"math"
	"math/rand"
	"slices"
	"testing"

	"vicinage/api"
	"vicinage/btree"
	"vicinage/disk"
	"vicinage/heap"
	"vicinage/kernel"
	"vicinage/slots"
	"vicinage/space"
)

// edges is keys and values at the edges of their numbers.
var edges = []uint64{0, 1, 2, 255, 256, 1<<32 - 1, 1 << 32, 1<<63 - 1, 1 << 63, 1<<63 + 1, math.MaxUint64 - 1, math.MaxUint64}

// P15.1: where one page is left, and where none is.
func TestMake(t *testing.T) {
	for _, pages := range []int{1, 2, 3, 9, 40} {
		g := rigged(t, roomy(pages, 2))
		for n := range pages - 1 {
			g.begin()
			root := g.make()
			if root == 0 {
				g.fatal("no tree, the %dth time", n)
			}
			g.agrees()
			g.end()
			g.agrees()
		}
		for range 2 {
			g.begin()
			if g.make(); g.act != nil {
				g.fatal("one more tree")
			}
			g.agrees()
		}
	}
}

// P15.1: a new tree has nothing, whatever its page was, and takes keys.
func TestMakeEmpty(t *testing.T) {
	g := rigged(t, roomy(12, 2))
	g.begin()
	var l []int
	for range 11 {
		l = append(l, g.takes(g.fresh(500)))
	}
	for _, n := range l {
		g.gives("Free", space.Free(g.k, n), api.OK)
		g.now().owner[n] = nobodys
	}
	g.now().pages = g.stands()
	a, b := g.make(), g.make()
	for _, root := range []int{a, b} {
		for _, key := range edges {
			g.remove(root, key)
			g.get(root, key)
			g.scan(root, key, 5)
		}
		if g.now().has(root) != 1 {
			g.fatal("an empty tree of %d pages", g.now().has(root))
		}
	}
	g.put(b, 3, 4)
	g.agrees()
	g.put(a, 0, 0)
	g.agrees()
	g.end()
	g.agrees()
}

// noRoots is pages that are no tree's roots.
func noRoots(g *rig, root int) []int {
	l := []int{math.MinInt, math.MinInt32, -256, -2, -1, 0, g.c.Pages, g.c.Pages + 1, 4000, 12000, 1 << 24, 1 << 32, 1<<32 + root, 1<<56 + root, math.MaxInt}
	for n, o := range g.now().owner {
		if o != n || n == 0 {
			l = append(l, n)
		}
	}
	return l
}

// P15.1 to P15.3: with a page that is no tree's root all tell ErrNone, and nothing is written.
func TestNoTree(t *testing.T) {
	t.Parallel()
	g, roots := withTrees(t, roomy(40, 3), 2)
	g.begin()
	for key := range uint64(200) {
		g.put(roots[0], key, key)
	}
	g.put(roots[1], 5, 6)
	g.takes(string(make([]byte, 500)))
	g.takes(g.fresh(500))
	for kind := range 256 {
		if kind%40 == 39 {
			b, _ := slots.Bytes(api.Slots{Kind: byte(kind), Next: uint32(roots[0]), Full: []bool{true}, Data: [][]byte{{2, 0, 7, 7}}})
			g.takes(string(b))
		}
	}
	things, err := heap.Make(g.k)
	g.gives("heap.Make", err, api.OK)
	id, err := heap.Insert(g.k, things, []byte("abcdefgh01234567"))
	g.gives("heap.Insert", err, api.OK)
	g.now().owner[things], g.now().owner[id>>8] = ours, ours
	g.now().pages = g.stands()
	check := func() {
		t.Helper()
		l := noRoots(g, roots[0])
		if len(l) < 40 {
			g.fatal("too few pages that are no roots: %v", l)
		}
		for _, n := range l {
			for _, key := range []uint64{0, 5, 100, math.MaxUint64} {
				g.put(n, key, 1)
				g.remove(n, key)
				g.get(n, key)
				g.scan(n, key, 3)
				g.scan(n, key, 0)
				g.scan(n, key, -1)
			}
			g.countPages(n)
		}
	}
	check()
	g.agrees()
	// Pages that a tree has given back are none, either.
	for key := range uint64(200) {
		g.remove(roots[0], key)
	}
	check()
	g.agrees()
	g.end()
	// A root that was given back from without is none any more.
	g.begin()
	g.gives("Free", space.Free(g.k, roots[1]), api.OK)
	g.refuses(roots[1])
	g.cancel()
	g.agrees()
}

// refuses looks at it that a page is no tree's root.
func (g *rig) refuses(n int) {
	g.t.Helper()
	left := g.k.Left()
	for _, key := range []uint64{0, 5, 9} {
		val, err := btree.Get(g.k, n, key)
		g.gives("Get where there is no root", err, api.ErrNone)
		l, err := btree.Scan(g.k, n, key, 9)
		g.gives("Scan where there is no root", err, api.ErrNone)
		if val != 0 || len(l) > 0 {
			g.fatal("beside ErrNone %d, %v", val, l)
		}
		g.gives("Put where there is no root", btree.Put(g.k, n, key, 7), api.ErrNone)
		g.gives("Delete where there is no root", btree.Delete(g.k, n, key), api.ErrNone)
	}
	pages, err := btree.Pages(g.k, n)
	g.gives("Pages where there is no root", err, api.ErrNone)
	if pages != 0 {
		g.fatal("beside ErrNone %d pages", pages)
	}
	if g.k.Left() != left {
		g.fatal("something was written where there is no root")
	}
}

// P15.1: a page of the map is no tree's root, whatever bits it has; nor is a page of
// the test's own that has a root's very bytes.
func TestLikeRoot(t *testing.T) {
	g, roots := withTrees(t, roomy(4100, 2), 1)
	g.begin()
	g.put(roots[0], 5, 6)
	b, err := g.k.Read(roots[0])
	g.gives("the kernel's Read", err, api.OK)
	n := g.takes(string(b))
	held, err := slots.Read(b)
	g.gives("slots.Read", err, api.OK)
	held.Next = 1
	like, err := slots.Bytes(held)
	g.gives("slots.Bytes", err, api.OK)
	for _, x := range []struct {
		at int
		b  []byte
	}{{n, b}, {1, b}, {1, like}} {
		g.gives("Write", g.k.Write(x.at, x.b), api.OK)
		g.refuses(x.at)
	}
}

// P15.1: keys and values at the edges of their numbers, each with each.
func TestEdges(t *testing.T) {
	t.Parallel()
	g, roots := withTrees(t, roomy(20, 3), 1)
	root := roots[0]
	for _, order := range [][]uint64{edges, backward(edges)} {
		g.begin()
		for _, val := range edges {
			for _, key := range order {
				g.put(root, key, val)
				g.get(root, key)
			}
			g.agrees()
		}
		g.end()
		g.tidy()
		for i, key := range order {
			g.begin()
			g.put(root, key, edges[i])
			g.end()
		}
		g.agrees()
		g.begin()
		for _, key := range order {
			g.remove(root, key)
			g.remove(root, key)
			g.agrees()
		}
		g.end()
	}
	if g.now().has(root) != 1 {
		g.fatal("%d pages", g.now().has(root))
	}
}

func backward(l []uint64) []uint64 {
	l = slices.Clone(l)
	slices.Reverse(l)
	return l
}

// P15.1: Put of a key that is there, with another value and with the same one.
func TestPutAgain(t *testing.T) {
	t.Parallel()
	g, roots := withTrees(t, roomy(30, 3), 1)
	root := roots[0]
	for _, n := range []uint64{1, 29, 30, 31, 32, 100, 300} {
		g.begin()
		for key := range n {
			g.put(root, key*3, key)
		}
		g.end()
		g.tidy()
		pages := g.now().has(root)
		g.begin()
		for key := range n {
			left := g.k.Left()
			g.put(root, key*3, key)
			g.unchanged("Put of the same value", left)
			g.put(root, key*3, ^key)
			if took := left - g.k.Left(); took > 1100 {
				g.fatal("Put of another value has written %d bytes", took)
			}
			g.get(root, key*3)
			g.rest()
		}
		if now := g.now().has(root); now != pages {
			g.fatal("%d pages, not %d", now, pages)
		}
		g.agrees()
		g.end()
		g.agrees()
		g.tidy()
	}
}

// P15.1: Delete of a key that is not there: of none, of one beside others, of one that was.
func TestDeleteTwice(t *testing.T) {
	t.Parallel()
	g, roots := withTrees(t, roomy(30, 3), 1)
	root := roots[0]
	for _, n := range []uint64{0, 1, 30, 31, 250} {
		g.begin()
		for key := range n {
			g.put(root, 10+key*2, key)
		}
		g.end()
		g.tidy()
		g.begin()
		for key := range 2*n + 20 {
			g.rest()
			if key%2 == 1 || key < 10 || key >= 10+2*n {
				g.remove(root, key)
			}
		}
		for _, key := range edges {
			if key > 2*n+20 {
				g.remove(root, key)
			}
		}
		g.agrees()
		for key := range n {
			g.rest()
			g.remove(root, 10+key*2)
			g.remove(root, 10+key*2)
			g.get(root, 10+key*2)
		}
		g.agrees()
		g.end()
		g.tidy()
	}
}

// order is so many keys: rising, falling, or in a drawn order.
func order(how int, keys []uint64) []uint64 {
	keys = slices.Clone(keys)
	slices.Sort(keys)
	switch how {
	case 1:
		slices.Reverse(keys)
	case 2:
		rand.New(rand.NewSource(int64(len(keys)))).Shuffle(len(keys), func(i, j int) { keys[i], keys[j] = keys[j], keys[i] })
	}
	return keys
}

// sorts is keys of three sorts: close together, far apart, and drawn.
func sorts(n int) [][]uint64 {
	l := make([][]uint64, 3)
	r := rand.New(rand.NewSource(15))
	for i := range n {
		l[0] = append(l[0], uint64(i))
		l[1] = append(l[1], uint64(i)*(math.MaxUint64/uint64(n-1)))
		l[2] = append(l[2], r.Uint64())
	}
	return l
}

// P15.1, P15.3, P15.4: some hundreds of keys, put in and taken out in all orders: all
// is looked at behind each call, each page of the device too.
func TestOrders(t *testing.T) {
	for in := range 3 {
		for out := range 3 {
			t.Run(fmt.Sprint(in, out), func(t *testing.T) {
				t.Parallel()
				g, roots := withTrees(t, roomy(60, 60), 1)
				root := roots[0]
				g.begin()
				g.takes(g.fresh(500))
				for i, key := range order(in, sorts(400)[(in+out)%3]) {
					g.put(root, key, key*7)
					if i%20 == 0 || i%31 < 2 {
						g.agrees()
					}
					g.rest()
				}
				g.takes(g.fresh(500))
				g.agrees()
				for i, key := range order(out, g.now().keys(root)) {
					g.remove(root, key)
					if i%20 == 0 || i > 360 {
						g.agrees()
					}
					g.rest()
				}
				g.end()
				g.agrees()
				if n := g.now().has(root); n != 1 {
					g.fatal("the empty tree has %d pages", n)
				}
			})
		}
	}
}

// P15.1, P15.2, P15.4: thousands of keys, in all orders.
func TestThousands(t *testing.T) {
	for in := range 3 {
		for out := range 3 {
			t.Run(fmt.Sprint(in, out), func(t *testing.T) {
				t.Parallel()
				g, roots := withTrees(t, roomy(1000, 64), 1)
				g.light = true
				root, n := roots[0], 9000
				g.begin()
				puts := order(in, sorts(n)[(in+out)%3])
				for i, key := range puts {
					g.gives("Put", btree.Put(g.k, root, key, key*7), api.OK)
					g.now().trees[root][key] = key * 7
					if i%1000 == 999 || i < 50 {
						g.agrees()
					}
					g.rest()
				}
				g.end()
				g.agrees()
				if pages, _ := btree.Pages(g.k, root); pages < n/30 {
					g.fatal("%d pages", pages)
				}
				g.begin()
				for i, key := range order(out, puts) {
					g.gives("Delete", btree.Delete(g.k, root, key), api.OK)
					delete(g.now().trees[root], key)
					if i%1000 == 999 || i > n-50 {
						g.agrees()
					}
					g.rest()
				}
				g.end()
				g.agrees()
				if pages, err := btree.Pages(g.k, root); pages != 1 || err != api.OK {
					g.fatal("the empty tree has %d pages", pages)
				}
			})
		}
	}
}

// P15.2: from all keys, beside them, and all counts.
func TestScan(t *testing.T) {
	for _, n := range []int{0, 1, 2, 29, 30, 31, 70, 400} {
		t.Run(fmt.Sprint(n), func(t *testing.T) {
			t.Parallel()
			g, roots := withTrees(t, roomy(60, 60), 1)
			root := roots[0]
			g.begin()
			for i := range n {
				g.put(root, uint64(10+5*i), uint64(i))
				g.rest()
			}
			g.end()
			counts := []int{math.MinInt, -2, -1, 0, 1, 2, 29, 30, 31, n - 1, n, n + 1, 10000, math.MaxInt}
			check := func() {
				t.Helper()
				froms := []uint64{0, 1, 9, 10, 11, 14, 15, 16, 1 << 63, math.MaxUint64 - 1, math.MaxUint64}
				for _, key := range g.now().keys(root) {
					froms = append(froms, key-1, key, key+1)
				}
				for i, from := range froms {
					if i < 40 || i%7 == 0 || i > len(froms)-10 {
						for _, most := range counts {
							g.scan(root, from, most)
						}
					}
				}
			}
			check()
			// With a key at each end, and holes.
			g.begin()
			g.put(root, 0, 1)
			g.put(root, math.MaxUint64, 2)
			for i := range n {
				if i/35%2 == 1 {
					g.remove(root, uint64(10+5*i))
				}
				g.rest()
			}
			check()
			g.end()
		})
	}
}

// P15.2: what Scan tells key by key is what Get tells, and each scan goes on where another one left off.
func TestScanAgrees(t *testing.T) {
	t.Parallel()
	g, roots := withTrees(t, roomy(200, 60), 1)
	root := roots[0]
	r := rand.New(rand.NewSource(2))
	g.begin()
	for range 500 {
		g.put(root, uint64(r.Intn(3000)), r.Uint64())
		g.rest()
	}
	g.end()
	for _, step := range []int{1, 2, 7, 30, 100} {
		var all []api.Pair
		for from := uint64(0); ; {
			l, err := btree.Scan(g.k, root, from, step)
			g.gives("Scan", err, api.OK)
			if len(l) == 0 {
				break
			}
			all = append(all, l...)
			from = l[len(l)-1].Key + 1
		}
		if !slices.Equal(all, g.now().from(root, 0, math.MaxInt)) {
			g.fatal("scans of %d: %v", step, all)
		}
		i := 0
		for key := range uint64(3000) {
			val, err := btree.Get(g.k, root, key)
			if i < len(all) && all[i].Key == key {
				g.gives("Get", err, api.OK)
				if val != all[i].Val {
					g.fatal("Get of %d: %d, Scan %d", key, val, all[i].Val)
				}
				i++
			} else {
				g.gives("Get", err, api.ErrNone)
			}
		}
	}
}

// P15.2: what is told is new memory.
func TestOwnMemory(t *testing.T) {
	g, roots := withTrees(t, roomy(30, 4), 1)
	g.begin()
	for key := range uint64(100) {
		g.put(roots[0], key, key)
	}
	g.end()
	one, _ := btree.Scan(g.k, roots[0], 0, 90)
	two, _ := btree.Scan(g.k, roots[0], 0, 90)
	clear(one[:cap(one)])
	if !slices.Equal(two, g.now().from(roots[0], 0, 90)) {
		g.fatal("two lists share memory: %v", two)
	}
	g.agrees()
}

// P15.1: the root stays the root, and has what it had, while the tree grows and shrinks, again and again.
func TestRootStays(t *testing.T) {
	t.Parallel()
	g, roots := withTrees(t, roomy(60, 60), 1)
	root := roots[0]
	for round := range uint64(3) {
		for key := range uint64(330) {
			g.begin()
			g.put(root, key*key+round, key)
			g.end()
			if g.room() < 30000 {
				g.tidy()
			}
		}
		g.agrees()
		for _, key := range g.now().keys(root) {
			g.begin()
			g.remove(root, key)
			g.end()
			if g.room() < 30000 {
				g.tidy()
			}
		}
		g.agrees()
		if g.now().has(root) != 1 {
			g.fatal("%d pages", g.now().has(root))
		}
	}
}

// P15.1: where pages are too few ErrFull, and behind the cancel all is as it was; a
// key that is there can be put, and all can be taken out.
func TestPagesFull(t *testing.T) {
	for pages := 2; pages < 24; pages++ {
		t.Run(fmt.Sprint(pages), func(t *testing.T) {
			t.Parallel()
			for how := range 3 {
				g, roots := withTrees(t, roomy(pages, 60), 1)
				root := roots[0]
				keys := order(how, sorts(1000)[how])
				in := 0
				for _, key := range keys {
					g.begin()
					if !g.put(root, key, key) {
						break
					}
					g.end()
					in++
					if g.room() < 30000 {
						g.tidy()
					}
				}
				if g.act != nil || in == len(keys) || in < (pages-2)/2 {
					g.fatal("%d pages are full with %d keys", pages, in)
				}
				g.agrees()
				for _, key := range keys[:in] {
					g.begin()
					if !g.put(root, key, ^key) {
						g.fatal("Put of a key that is there was refused")
					}
					g.end()
					if g.room() < 30000 {
						g.tidy()
					}
				}
				g.agrees()
				for i, key := range order((how+pages)%3, keys[:in]) {
					g.begin()
					if !g.remove(root, key) {
						g.fatal("Delete was refused")
					}
					g.end()
					if i%20 == 0 {
						g.agrees()
					}
					if g.room() < 30000 {
						g.tidy()
					}
				}
				g.agrees()
				if g.now().has(root) != 1 {
					g.fatal("%d pages", g.now().has(root))
				}
			}
		})
	}
}

// P15.4: several trees side by side: the same keys with other values in each.
func TestSideBySide(t *testing.T) {
	t.Parallel()
	g, roots := withTrees(t, roomy(200, 60), 4)
	r := rand.New(rand.NewSource(4))
	for round := range 12 {
		g.begin()
		for range 120 {
			root := roots[r.Intn(len(roots))]
			key := uint64(r.Intn(300))
			if r.Intn(6) < round/2 {
				g.remove(root, key)
			} else {
				g.put(root, key, r.Uint64())
			}
			g.rest()
		}
		g.agrees()
		g.end()
		g.tidy()
	}
	for _, root := range roots {
		g.empties(root, r)
	}
}

// empties takes all keys out of a tree, in a drawn order.
func (g *rig) empties(root int, r *rand.Rand) {
	g.t.Helper()
	keys := g.now().keys(root)
	for i, j := range r.Perm(len(keys)) {
		if g.room() < 30000 {
			g.tidy()
		}
		g.begin()
		g.remove(root, keys[j])
		g.end()
		if i%20 == 0 || len(keys)-i < 5 {
			g.agrees()
		}
	}
	g.agrees()
	if n := g.now().has(root); n != 1 {
		g.fatal("the tree %d, which is empty, has %d pages", root, n)
	}
}

// calls is all calls, with what they tell.
func calls(k *kernel.Kernel, root int) map[string]api.Errno {
	l := map[string]api.Errno{}
	tell := func(what string, zero bool, err api.Errno) {
		if err != api.OK && !zero {
			err = 999
		}
		l[what] = err
	}
	n, err := btree.Make(k)
	tell("Make", n == 0, err)
	for i, root := range []int{root, -1, 0, 1 << 40} {
		for _, key := range []uint64{0, 5, math.MaxUint64} {
			val, err := btree.Get(k, root, key)
			tell(fmt.Sprintf("Get %d %d", i, key), val == 0, err)
			tell(fmt.Sprintf("Put %d %d", i, key), true, btree.Put(k, root, key, 9))
			tell(fmt.Sprintf("Delete %d %d", i, key), true, btree.Delete(k, root, key))
			for _, most := range []int{-1, 0, 3} {
				pairs, err := btree.Scan(k, root, key, most)
				tell(fmt.Sprintf("Scan %d %d %d", i, key, most), len(pairs) == 0, err)
			}
		}
		n, err := btree.Pages(k, root)
		tell(fmt.Sprintf("Pages %d", i), n == 0, err)
	}
	return l
}

// P1: of no kernel ErrNil, ahead of all.
func TestNone(t *testing.T) {
	for _, k := range []*kernel.Kernel{nil, {}} {
		for what, err := range calls(k, 1) {
			if err != api.ErrNil {
				t.Errorf("%s of no kernel: %d", what, err)
			}
		}
	}
}

// Where no action is open those that write tell ErrState, ahead of all others; the others work.
func TestNoAction(t *testing.T) {
	g, roots := withTrees(t, roomy(9, 2), 1)
	check := func() {
		t.Helper()
		left := g.k.Left()
		for what, err := range calls(g.k, roots[0]) {
			want := api.ErrState
			switch what[:3] {
			case "Get", "Sca", "Pag":
				want = api.ErrNone
			}
			switch {
			case what == "Get 0 5" && len(g.now().trees[roots[0]]) > 0, what[:3] == "Sca" && what[5] == '0', what == "Pages 0":
				want = api.OK
			}
			if err != want {
				g.fatal("%s with no action open: %d, not %d", what, err, want)
			}
		}
		g.unchanged("what was refused", left)
		g.agrees()
	}
	check()
	g.begin()
	for key := range uint64(40) {
		g.put(roots[0], 5+key, key)
	}
	g.end()
	check()
	g.begin()
	for g.takes(g.fresh(500)) > 0 {
	}
	g.end()
	check()
	g.begin()
	g.remove(roots[0], 5)
	g.cancel()
	check()
}

// Once the device told an error ErrDown, ahead of all others, with an action open and with none.
func TestDown(t *testing.T) {
	for _, open := range []bool{false, true} {
		g, roots := withTrees(t, roomy(12, 2), 1)
		g.begin()
		for key := range uint64(100) {
			g.put(roots[0], key, key)
		}
		g.end()
		g.tidy()
		if open {
			g.begin()
			g.put(roots[0], 3, 4)
		}
		g.gives("Arm", g.d.Arm(1), api.OK)
		g.gives("Sync", g.d.Sync(), api.ErrDown)
		for n := range 12 {
			if _, err := g.k.Read(n); err == api.ErrDown {
				break
			}
		}
		for what, err := range calls(g.k, roots[0]) {
			if err != api.ErrDown {
				g.fatal("%s, the device is down: %d", what, err)
			}
		}
	}
}

// Where the device tells an error within a call: ErrDown.
func TestDownWithin(t *testing.T) {
	t.Parallel()
	var went [4]int
	for n := 1; n < 40; n++ {
		for what := range 4 {
			g, roots := withTrees(t, roomy(60, 1), 1)
			g.begin()
			g.puts(roots[0], 300)
			g.end()
			g.gives("Arm", g.d.Arm(n), api.OK)
			g.armed = true
			// What is dirty is put back while other pages are read, and so the power goes.
			switch what {
			case 0:
				g.scan(roots[0], 0, 1000)
			case 1:
				g.countPages(roots[0])
			case 2:
				g.get(roots[0], 299)
			case 3:
				g.begin()
				g.remove(roots[0], 299)
			}
			if g.down {
				went[what]++
				for what, err := range calls(g.k, roots[0]) {
					if err != api.ErrDown {
						g.fatal("%s, the device is down: %d", what, err)
					}
				}
			}
		}
	}
	if slices.Contains(went[:], 0) {
		t.Errorf("the power went within calls: %v", went)
	}
}

// puts puts the first so many keys in, and looks at it once.
func (g *rig) puts(root int, n uint64) {
	g.t.Helper()
	for key := range n {
		g.gives("Put", btree.Put(g.k, root, key, key), api.OK)
		g.now().trees[root][key] = key
	}
	g.changed("Puts", root)
}

// P1: trees in whose pages nothing is right, ways down that go round among them: all
// calls end, none panics, and what is told is an error, or none.
func TestForged(t *testing.T) {
	t.Parallel()
	g, roots := withTrees(t, roomy(120, 60), 2)
	root := roots[0]
	g.begin()
	g.puts(root, 900)
	for key := range uint64(40) {
		g.put(roots[1], key*40, key)
	}
	g.end()
	r := rand.New(rand.NewSource(6))
	for range 1500 {
		g.begin()
		for range 1 + r.Intn(4) {
			g.forges(r, root)
		}
		for range 4 {
			key := uint64(r.Intn(900))
			if r.Intn(4) == 0 {
				key = edges[r.Intn(len(edges))]
			}
			val, err := btree.Get(g.k, root, key)
			g.gives("Get", err, api.OK, api.ErrNone)
			l, err2 := btree.Scan(g.k, root, key, r.Intn(2000))
			g.gives("Scan", err2, api.OK, api.ErrNone)
			pages, err3 := btree.Pages(g.k, root)
			g.gives("Pages", err3, api.OK, api.ErrNone)
			if err != api.OK && val != 0 || err2 != api.OK && len(l) > 0 || err3 != api.OK && pages != 0 {
				g.fatal("beside errors: %d, %v, %d", val, l, pages)
			}
			for i := 1; i < len(l); i++ {
				if l[i-1].Key >= l[i].Key {
					g.fatal("Scan is not rising: %v", l)
				}
			}
			g.gives("Put", btree.Put(g.k, root, key, 1), api.OK, api.ErrNone, api.ErrFull)
			for i := range uint64(8) {
				g.gives("Delete", btree.Delete(g.k, root, key+i), api.OK, api.ErrNone, api.ErrFull)
			}
		}
		g.cancel()
		if g.room() < 100000 {
			g.tidy()
		}
	}
	g.agrees()
}

// P1: pages of pages that have just one of them.
func TestForgedOnes(t *testing.T) {
	for _, keys := range []uint64{31, 900} {
		g, roots := withTrees(t, roomy(120, 60), 1)
		root := roots[0]
		g.begin()
		g.puts(root, keys)
		g.end()
		for n, o := range g.now().owner {
			if o != root {
				continue
			}
			b, err := g.k.Read(n)
			g.gives("the kernel's Read", err, api.OK)
			held, err := slots.Read(b)
			g.gives("slots.Read", err, api.OK)
			held, err = slots.Put(held, 0, held.Data[0][:16])
			g.gives("slots.Put", err, api.OK)
			b, err = slots.Bytes(held)
			g.gives("slots.Bytes", err, api.OK)
			g.begin()
			g.gives("Write", g.k.Write(n, b), api.OK)
			for key := range keys {
				g.gives("Delete", btree.Delete(g.k, root, key), api.OK, api.ErrNone, api.ErrFull)
			}
			g.cancel()
		}
		g.agrees()
	}
}

// P15.1: a root is known by the first byte of its page: of all others none is a root.
func TestKinds(t *testing.T) {
	g, roots := withTrees(t, roomy(10, 2), 1)
	g.begin()
	b, err := g.k.Read(roots[0])
	g.gives("the kernel's Read", err, api.OK)
	for kind := range 256 {
		if was := b[0]; int(was) != kind {
			b[0] = byte(kind)
			g.gives("Write", g.k.Write(roots[0], b), api.OK)
			g.refuses(roots[0])
			b[0] = was
		}
	}
	g.cancel()
	g.agrees()
}

// P15.2: Scan asks for no page but those where what it tells stands: where another one
// is broken it tells the same.
func TestScanReads(t *testing.T) {
	g, roots := withTrees(t, roomy(120, 60), 1)
	root := roots[0]
	g.begin()
	g.puts(root, 900)
	g.end()
	told := 0
	for n, o := range g.now().owner {
		if o != root || n == root {
			continue
		}
		g.begin()
		g.gives("Write", g.k.Write(n, make([]byte, 500)), api.OK)
		there := make([]bool, 900)
		for key := range there {
			_, err := btree.Get(g.k, root, uint64(key))
			there[key] = err == api.OK
		}
		if !slices.Contains(there, false) {
			g.fatal("the page %d is none of the tree's", n)
		}
		for from := 0; from+10 <= 900; from += 5 {
			if !slices.Contains(there[from:from+10], false) {
				g.scan(root, uint64(from), 10)
				told++
			}
		}
		g.cancel()
	}
	if told < 3000 {
		g.fatal("%d scans were told", told)
	}
}

// forges writes something into a page of a tree by the kernel alone.
func (g *rig) forges(r *rand.Rand, root int) {
	g.t.Helper()
	var l []int
	for n, o := range g.now().owner {
		if o == root {
			l = append(l, n)
		}
	}
	// The root and what is just under it more often than others.
	at := l[r.Intn(min(len(l), 1+r.Intn(len(l))))]
	b, err := g.k.Read(at)
	g.gives("the kernel's Read", err, api.OK)
	switch r.Intn(6) {
	case 0:
		r.Read(b)
	case 1:
		clear(b)
	case 2:
		b, err = g.k.Read(r.Intn(g.c.Pages))
	case 3:
		b, err = g.k.Read(l[r.Intn(len(l))])
	case 4:
		b[r.Intn(40)] = byte(r.Intn(120))
	default:
		// A value, or a page, in the place of another one.
		i, j := r.Intn(30), r.Intn(30)
		copy(b[16+16*i:][:8], b[16+16*j:][:8])
	}
	g.gives("the kernel's Read", err, api.OK)
	g.gives("Write", g.k.Write(at, b), api.OK)
}

// Cancel behind each call: all is as it was.
func TestCancel(t *testing.T) {
	t.Parallel()
	g, roots := withTrees(t, roomy(60, 60), 2)
	for n := range uint64(130) {
		g.begin()
		g.put(roots[0], 1000-n*3, n)
		g.put(roots[1], n*3, n)
		g.end()
		check := func(call func()) {
			t.Helper()
			left := g.k.Left()
			g.begin()
			call()
			g.cancel()
			if g.k.Left() != left {
				g.fatal("Left: %d, not %d", g.k.Left(), left)
			}
		}
		check(func() { g.make() })
		for _, root := range roots {
			check(func() { g.put(root, 1001, n) })
			check(func() { g.put(root, 1000, n) })
			check(func() { g.put(root, n*3-1, n) })
			check(func() { g.remove(root, n*3) })
			check(func() { g.remove(root, 1000) })
			check(func() { g.remove(root, 1) })
			check(func() { g.put(root+7, 1, 1) })
		}
		if n%16 == 0 {
			g.agrees()
			check(func() {
				for _, root := range roots {
					for _, key := range g.now().keys(root) {
						g.remove(root, key)
					}
				}
				g.agrees()
				for key := range uint64(40) {
					g.put(roots[0], key, key)
				}
			})
			g.agrees()
		}
		if g.room() < 100000 {
			g.tidy()
		}
	}
}

// fullTo fills the log, but for so many bytes, and some few, by writes of a page of ours.
func (g *rig) fullTo(n, left int) {
	g.t.Helper()
	for size := 450; size > 0; {
		if g.room() >= left+2*size && g.fills(n, size) {
			continue
		}
		size -= min(30, (size+1)/2)
	}
}

// fills writes so many bytes of a page, if the log has room for them.
func (g *rig) fills(n, size int) bool {
	g.t.Helper()
	g.begin()
	b := g.now().pages[n]
	b = g.fresh(500)[:size] + b[size:]
	if g.k.Write(n, []byte(b)) == api.OK && g.k.End(0, nil) == api.OK {
		g.now().pages[n] = b
		g.told, g.act = append(g.told, *g.act), nil
		return true
	}
	g.cancel()
	return false
}

// soak writes a page of ours byte by byte in the open action, till the log has room for no write.
func (g *rig) soak(n int) {
	g.t.Helper()
	b := []byte(g.now().pages[n])
	for err := api.OK; err == api.OK; {
		b[0]++
		err = g.k.Write(n, b)
		g.gives("Write", err, api.OK, api.ErrFull)
		if err == api.ErrFull {
			b[0]--
		}
	}
	g.now().pages[n] = string(b)
}

// Where the log has no room: ErrFull, and behind the cancel all is as it was.
func TestLogFull(t *testing.T) {
	for _, n := range []uint64{0, 5, 30, 100, 460} {
		t.Run(fmt.Sprint(n), func(t *testing.T) {
			t.Parallel()
			seen := map[string]bool{}
			for fill := range 50 {
				g, roots := withTrees(t, api.Config{Ring: 400, Pages: 60, Frames: 40}, 1)
				root := roots[0]
				g.begin()
				other := g.takes(g.fresh(500))
				for key := range n {
					g.gives("Put", btree.Put(g.k, root, 10*key, key), api.OK)
					g.now().trees[root][10*key] = key
					if g.room() < 5000 {
						g.changed("Puts", root)
						g.rest()
					}
				}
				g.changed("Puts", root)
				g.end()
				g.tidy()
				g.fullTo(other, fill*fill*4)
				for what, call := range map[string]func() bool{
					"Make": func() bool { return g.make() > 0 },
					"Put":  func() bool { return g.put(root, 10*n-1, 1<<50+7) },
					"Again": func() bool {
						if fill == 0 {
							g.soak(other)
						}
						return g.put(root, 0, 1<<50+9)
					},
					"Delete": func() bool { return g.remove(root, 10*n-10) },
				} {
					left := g.k.Left()
					g.begin()
					done := call()
					seen[fmt.Sprint(what, done)] = true
					if g.act != nil {
						g.cancel()
					}
					if g.k.Left() != left {
						g.fatal("%s and Cancel: Left %d, not %d", what, g.k.Left(), left)
					}
				}
				g.agrees()
			}
			for _, what := range []string{"Make", "Put", "Again", "Delete"} {
				if n > 0 && (!seen[what+"true"] || !seen[what+"false"]) {
					t.Errorf("%s was not seen both done and refused: %v", what, seen)
				}
			}
		})
	}
}

// The log has room for many a Put: one that splits no page changes few bytes.
func TestFewBytes(t *testing.T) {
	for how := range 3 {
		g, roots := withTrees(t, api.Config{Ring: 400, Pages: 100, Frames: 4}, 1)
		g.begin()
		for _, key := range order(how, sorts(150)[0]) {
			if !g.put(roots[0], key, key) {
				g.fatal("Put was refused")
			}
		}
		g.agrees()
		g.end()
	}
}

// P15.4, P1: drawn calls, cancels and crashes against the model.
func TestDrawn(t *testing.T) {
	configs := []api.Config{{Ring: 1200, Pages: 4, Frames: 1}, {Ring: 1200, Pages: 12, Frames: 2}, {Ring: 2000, Pages: 60, Frames: 1}, {Ring: 1500, Pages: 60, Frames: 5}}
	for i, c := range configs {
		for run := range 6 {
			t.Run(fmt.Sprint(c, run), func(t *testing.T) {
				t.Parallel()
				g := rigged(t, c)
				r := rand.New(rand.NewSource(int64(100*i + run)))
				span := []int{20, 150, 700}[run%3]
				for range 60 {
					g.deed(r, span)
				}
				g.tidy()
				for _, root := range g.now().roots() {
					g.empties(root, r)
				}
			})
		}
	}
}

// deed is an action, a commit or a crash, drawn.
func (g *rig) deed(r *rand.Rand, span int) {
	g.t.Helper()
	if g.room() < 60000 {
		g.tidy()
	}
	switch x := r.Intn(14); {
	case x == 0:
		g.commit()
	case x == 1:
		if r.Intn(2) == 0 {
			g.begin()
			g.some(r, span)
		}
		picks := make([]byte, len(g.d.Waits()))
		for i := range picks {
			picks[i] = byte(r.Intn(4))
		}
		g.crash(picks)
	case x == 2:
		g.tidy()
	default:
		g.begin()
		for range r.Intn(12) {
			if g.act != nil {
				g.some(r, span)
			}
		}
		switch {
		case g.act == nil:
		case r.Intn(4) == 0:
			g.cancel()
		default:
			g.end()
		}
	}
	g.agrees()
}

// some is a call in an open action, or some like ones, drawn.
func (g *rig) some(r *rand.Rand, span int) {
	g.t.Helper()
	s := g.now()
	root, key := r.Intn(g.c.Pages+2)-1, uint64(r.Intn(span))
	if roots := s.roots(); len(roots) > 0 && r.Intn(20) > 0 {
		root = roots[r.Intn(len(roots))]
	}
	if keys := s.keys(root); len(keys) > 0 && r.Intn(3) == 0 {
		key = keys[r.Intn(len(keys))]
	}
	if r.Intn(30) == 0 {
		key = edges[r.Intn(len(edges))]
	}
	switch x := r.Intn(20); {
	case x < 1 || len(s.trees) == 0:
		g.make()
	case x < 7:
		g.put(root, key, uint64(r.Intn(5)))
	case x < 10:
		g.several(r.Intn(span/4+1), func(i int) bool { return g.put(root, key+uint64(i*span/150), r.Uint64()) })
	case x < 15:
		g.remove(root, key)
	case x < 17:
		keys := s.from(root, key, r.Intn(span/4+1))
		g.several(len(keys), func(i int) bool { return g.remove(root, keys[i].Key) })
	case x < 18:
		g.get(root, key)
	default:
		g.scan(root, key, r.Intn(span)-1)
	}
}

// several does so many like calls, while the log has room for them, and none was refused.
func (g *rig) several(n int, call func(i int) bool) {
	for i := range n {
		if g.room() < 25000 || !call(i) {
			return
		}
	}
}

// P1: trees of two kernels know nothing of each other.
func TestTwo(t *testing.T) {
	a, as := withTrees(t, roomy(40, 2), 1)
	b, bs := withTrees(t, roomy(40, 2), 1)
	r := rand.New(rand.NewSource(2))
	for range 10 {
		a.begin()
		b.begin()
		for range 20 {
			a.put(as[0], uint64(r.Intn(100)), r.Uint64())
			b.put(bs[0], uint64(r.Intn(100)), r.Uint64())
			a.remove(as[0], uint64(r.Intn(100)))
		}
		a.end()
		b.cancel()
		a.agrees()
		b.agrees()
	}
}

// The chapter's examples.
func TestExamples(t *testing.T) {
	c := api.Config{Ring: 100, Pages: 6, Frames: 2}
	d, _ := disk.New(kernel.Sectors(c), kernel.Sectors(c))
	k, err := kernel.Make(d, c)
	if err != api.OK || k.Begin() != api.OK || space.Init(k) != api.OK {
		t.Fatal("Init")
	}
	root, err := btree.Make(k)
	if err != api.OK {
		t.Fatal("Make", err)
	}
	for _, p := range []api.Pair{{Key: 5, Val: 9}, {Key: 3, Val: 7}, {Key: 5, Val: 1}} {
		if err := btree.Put(k, root, p.Key, p.Val); err != api.OK {
			t.Error("Put", p, err)
		}
	}
	if l, err := btree.Scan(k, root, 0, 10); !slices.Equal(l, []api.Pair{{Key: 3, Val: 7}, {Key: 5, Val: 1}}) || err != api.OK {
		t.Error("Scan", l, err)
	}
	if val, err := btree.Get(k, root, 4); val != 0 || err != api.ErrNone {
		t.Error("Get", val, err)
	}
	if err := btree.Delete(k, root, 4); err != api.ErrNone {
		t.Error("Delete", err)
	}
	if l, err := btree.Scan(k, root, 4, 10); !slices.Equal(l, []api.Pair{{Key: 5, Val: 1}}) || err != api.OK {
		t.Error("Scan from 4", l, err)
	}
	if l, err := btree.Scan(k, root, 6, 10); len(l) > 0 || err != api.OK {
		t.Error("Scan from 6", l, err)
	}
	if l, err := btree.Scan(k, root, 0, 0); len(l) > 0 || err != api.OK {
		t.Error("Scan of none", l, err)
	}
}
