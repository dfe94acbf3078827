package btree_test

import (
	"fmt"
	"maps"
	"math"
	"math/rand"
	"slices"
	"strings"
	"testing"

	"vicinage/api"
	"vicinage/btree"
	"vicinage/disk"
	"vicinage/kernel"
	"vicinage/space"
)

// The slow model: which keys each tree has, and whose each page is

// Whose a page is, but for a tree's, which is told by its root.
const (
	nobodys = 0
	maps0   = -1 // the map's
	ours    = -2 // the test's own
)

// state is what there is. Of the pages' bytes the model knows nothing of its own:
// they are those that stood there when the state was told.
type state struct {
	trees map[int]map[uint64]uint64 // by their roots
	owner []int                     // of each page
	pages []string
}

func (s state) copy() state {
	trees := map[int]map[uint64]uint64{}
	for root, keys := range s.trees {
		trees[root] = maps.Clone(keys)
	}
	return state{trees, slices.Clone(s.owner), slices.Clone(s.pages)}
}

// roots is the trees' roots, rising.
func (s state) roots() []int { return slices.Sorted(maps.Keys(s.trees)) }

// keys is a tree's keys, rising.
func (s state) keys(root int) []uint64 { return slices.Sorted(maps.Keys(s.trees[root])) }

// from is a tree's first keys from one on, with their values: at most so many.
func (s state) from(root int, from uint64, most int) []api.Pair {
	var l []api.Pair
	for _, key := range s.keys(root) {
		if key >= from && len(l) < most {
			l = append(l, api.Pair{Key: key, Val: s.trees[root][key]})
		}
	}
	return l
}

// has is how many pages a tree has, or nobody.
func (s state) has(root int) int {
	n := 0
	for _, o := range s.owner {
		if o == root {
			n++
		}
	}
	return n
}

// A kernel and its model

// rig is a kernel on a device, its model, and what was done to them.
type rig struct {
	t           testing.TB
	d           *disk.Disk
	c           api.Config
	k           *kernel.Kernel
	told        []state // what may be there behind a crash: the last of them is what is there now
	act         *state  // what is there in the open action
	more        []state // where the power went: what may be there, too
	light       bool    // pages are not looked at one by one
	serl        int
	past        []string
	armed, down bool // the power will go; it went
}

// rigged is a new kernel whose map was made.
func rigged(t testing.TB, c api.Config) *rig {
	t.Helper()
	g := &rig{t: t, c: c}
	d, err := disk.New(kernel.Sectors(c), kernel.Sectors(c))
	g.gives("disk.New", err, api.OK)
	k, err := kernel.Make(d, c)
	g.gives("Make", err, api.OK)
	g.d, g.k = d, k
	g.gives("Begin", k.Begin(), api.OK)
	g.gives("Init", space.Init(k), api.OK)
	g.gives("End", k.End(0, nil), api.OK)
	g.gives("Commit", k.Commit(1<<40, 1), api.OK)
	s := state{map[int]map[uint64]uint64{}, make([]int, c.Pages), nil}
	for n := range space.Maps(c.Pages) {
		s.owner[n] = maps0
	}
	s.pages = g.stands()
	g.told = []state{s}
	g.did("Make %v", c)
	return g
}

// withTrees is a new kernel with so many trees.
func withTrees(t testing.TB, c api.Config, n int) (*rig, []int) {
	t.Helper()
	g := rigged(t, c)
	g.begin()
	var roots []int
	for range n {
		roots = append(roots, g.make())
	}
	g.end()
	g.commit()
	return g, roots
}

// roomy is a config with room for some thousand writes.
func roomy(pages, frames int) api.Config {
	return api.Config{Ring: min(8192, 65536-7-4*pages), Pages: pages, Frames: frames}
}

func (g *rig) did(what string, more ...any) { g.past = append(g.past, fmt.Sprintf(what, more...)) }

func (g *rig) fatal(what string, more ...any) {
	g.t.Helper()
	past := g.past
	if len(past) > 120 {
		past = append([]string{".."}, past[len(past)-120:]...)
	}
	g.t.Fatalf("%s\n.. behind %s", fmt.Sprintf(what, more...), strings.Join(past, "; "))
}

// gives ends the test, if a call's error is not what is wanted.
func (g *rig) gives(what string, err api.Errno, want ...api.Errno) {
	g.t.Helper()
	if !slices.Contains(want, err) {
		g.fatal("%s: error %d, not %v", what, err, want)
	}
}

// went tells that the power went in a call, behind which one more state may be there.
func (g *rig) went(err api.Errno, more ...state) bool {
	if err == api.ErrDown && g.armed {
		g.down = true
		g.more = more
	}
	return g.down
}

// now is what is there.
func (g *rig) now() *state {
	if g.act != nil {
		return g.act
	}
	return &g.told[len(g.told)-1]
}

// fresh is so many bytes that were not there yet.
func (g *rig) fresh(n int) string {
	g.serl++
	b := make([]byte, n)
	rand.New(rand.NewSource(int64(g.serl))).Read(b)
	return string(b)
}

// stands is what stands in all pages; nothing, if the power goes.
func (g *rig) stands() []string {
	g.t.Helper()
	var l []string
	for n := range g.c.Pages {
		b, err := g.k.Read(n)
		if g.went(err, g.more...) {
			return nil
		}
		g.gives("the kernel's Read", err, api.OK)
		l = append(l, string(b))
	}
	return l
}

// used is which pages are in use, by the map that stands in the first ones.
func used(pages []string) []bool {
	l := make([]bool, len(pages))
	for n := range l {
		l[n] = pages[n/4000][n%4000/8]>>(n%8)&1 == 1
	}
	return l
}

// changed looks at what a call that wrote for a tree has changed: only pages of the
// tree, such as were nobody's, and the map.
func (g *rig) changed(what string, root int) {
	g.t.Helper()
	if g.light {
		g.countPages(root)
		return
	}
	s, is := g.now(), g.stands()
	if g.down {
		return
	}
	in := used(is)
	for n, was := range s.pages {
		if was != is[n] && s.owner[n] != root && s.owner[n] != nobodys && s.owner[n] != maps0 {
			g.fatal("%s of the tree %d: the page %d was changed, which is of %d", what, root, n, s.owner[n])
		}
		switch {
		case in[n] && s.owner[n] == nobodys:
			s.owner[n] = root
		case !in[n] && s.owner[n] == root && n != root:
			s.owner[n] = nobodys
		case in[n] != (s.owner[n] != nobodys):
			g.fatal("%s of the tree %d: the page %d of %d is in use: %v", what, root, n, s.owner[n], in[n])
		}
	}
	s.pages = is
	g.countPages(root)
}

// unchanged looks at it that a call has changed nothing.
func (g *rig) unchanged(what string, left int) {
	g.t.Helper()
	if g.down {
		return
	}
	if g.k.Left() != left {
		g.fatal("%s has written: Left is %d, not %d", what, g.k.Left(), left)
	}
	if g.light {
		return
	}
	if is := g.stands(); !g.down && !slices.Equal(is, g.now().pages) {
		g.fatal("%s has changed pages", what)
	}
}

// Calls of the kernel

func (g *rig) begin() {
	g.t.Helper()
	if g.down {
		return
	}
	err := g.k.Begin()
	if g.went(err) {
		return
	}
	g.gives("Begin", err, api.OK)
	s := g.now().copy()
	g.act = &s
	g.did("Begin")
}

// end ends the open action for nobody.
func (g *rig) end() {
	g.t.Helper()
	if g.down {
		return
	}
	err := g.k.End(0, nil)
	if g.went(err, *g.act) {
		return
	}
	g.gives("End", err, api.OK)
	g.told, g.act = append(g.told, *g.act), nil
	if g.light {
		g.told = g.told[len(g.told)-1:]
	}
	g.did("End")
}

// cancel cancels the open action: all is as it was.
func (g *rig) cancel() {
	g.t.Helper()
	if g.down {
		return
	}
	err := g.k.Cancel()
	if g.went(err) {
		return
	}
	g.gives("Cancel", err, api.OK)
	g.act = nil
	g.did("Cancel")
	if is := g.stands(); !g.down && !g.light && !slices.Equal(is, g.now().pages) {
		g.fatal("behind Cancel pages are not as they were")
	}
}

// commit makes all last that was told.
func (g *rig) commit() {
	g.t.Helper()
	if g.down {
		return
	}
	err := g.k.Commit(1<<40, 1)
	if g.went(err) {
		return
	}
	g.gives("Commit", err, api.OK)
	g.told = g.told[len(g.told)-1:]
	g.did("Commit")
}

// tidy gives up what of the log is not wanted.
func (g *rig) tidy() {
	g.t.Helper()
	if g.down {
		return
	}
	err := g.k.Clean()
	if g.went(err) {
		return
	}
	g.gives("Clean", err, api.OK)
	err = g.k.Point()
	if g.went(err) {
		return
	}
	g.gives("Point", err, api.OK)
	g.told = g.told[len(g.told)-1:]
	g.did("Clean, Point")
}

// rest ends the open action, and begins another one, where the log gets full.
func (g *rig) rest() {
	g.t.Helper()
	if g.act != nil && g.room() < 30000 {
		g.end()
		g.tidy()
		g.begin()
	}
}

// takes hands out a page to the test, with bytes of its own; it tells 0, if there is none.
func (g *rig) takes(body string) int {
	g.t.Helper()
	n, err := space.Alloc(g.k)
	if err == api.ErrFull {
		return 0
	}
	g.gives("Alloc", err, api.OK)
	g.gives("Write", g.k.Write(n, []byte(body)), api.OK)
	s := g.now()
	s.owner[n] = ours
	s.pages = g.stands()
	g.did("our page %d", n)
	return n
}

// room is how much a call may write.
func (g *rig) room() int { return g.k.Left() - g.k.Keep() }

// Calls of the trees, each with what it is to answer

// make tells the root of a new tree; 0, if there is none: then the action is cancelled.
func (g *rig) make() int {
	g.t.Helper()
	if g.down {
		return 0
	}
	s := g.now()
	root, err := btree.Make(g.k)
	switch {
	case g.went(err):
		return 0
	case s.has(nobodys) == 0 || err == api.ErrFull && g.room() < 5000:
		g.gives("Make", err, api.ErrFull)
		if root != 0 {
			g.fatal("Make: %d beside ErrFull", root)
		}
		g.cancel()
		return 0
	}
	g.gives("Make", err, api.OK)
	if root < 1 || root >= g.c.Pages || s.owner[root] != nobodys {
		g.fatal("Make: %d, which is in use, or none", root)
	}
	g.did("Make: %d", root)
	s.trees[root] = map[uint64]uint64{}
	g.changed("Make", root)
	return root
}

// put tells whether a key was given a value; where it was not for want of room, the
// action is cancelled.
func (g *rig) put(root int, key, val uint64) bool {
	g.t.Helper()
	if g.down {
		return false
	}
	s, what := g.now(), fmt.Sprintf("Put of %d with %d into %d", key, val, root)
	left, room, free := g.k.Left(), g.room(), s.has(nobodys)
	err := btree.Put(g.k, root, key, val)
	if g.went(err) {
		return false
	}
	g.did("%s: %d", what, err)
	keys, is := s.trees[root]
	_, there := keys[key]
	switch {
	case !is:
		g.gives(what, err, api.ErrNone)
		g.unchanged(what, left)
		return false
	case err == api.ErrFull && (!there && free < 6 || room < 16000):
		g.cancel()
		return false
	}
	g.gives(what, err, api.OK)
	keys[key] = val
	g.changed(what, root)
	return true
}

// remove tells whether a key was taken out; where it was not for want of room, the
// action is cancelled.
func (g *rig) remove(root int, key uint64) bool {
	g.t.Helper()
	if g.down {
		return false
	}
	s, what := g.now(), fmt.Sprintf("Delete of %d in %d", key, root)
	left, room := g.k.Left(), g.room()
	err := btree.Delete(g.k, root, key)
	if g.went(err) {
		return false
	}
	g.did("%s: %d", what, err)
	keys := s.trees[root]
	_, there := keys[key]
	switch {
	case !there:
		g.gives(what, err, api.ErrNone)
		g.unchanged(what, left)
		return false
	case err == api.ErrFull && room < 16000:
		g.cancel()
		return false
	}
	g.gives(what, err, api.OK)
	delete(keys, key)
	g.changed(what, root)
	return true
}

// get asks for a key, which may be there or not.
func (g *rig) get(root int, key uint64) {
	g.t.Helper()
	if g.down {
		return
	}
	val, err := btree.Get(g.k, root, key)
	if g.went(err) {
		return
	}
	want, there := g.now().trees[root][key]
	if !there {
		g.gives(fmt.Sprintf("Get of %d in %d, which is not there", key, root), err, api.ErrNone)
	} else {
		g.gives(fmt.Sprintf("Get of %d in %d", key, root), err, api.OK)
	}
	if val != want {
		g.fatal("Get of %d in %d: %d, not %d", key, root, val, want)
	}
}

// scan asks for the first keys from one on.
func (g *rig) scan(root int, from uint64, most int) {
	g.t.Helper()
	if g.down {
		return
	}
	what := fmt.Sprintf("Scan of %d from %d, %d", root, from, most)
	l, err := btree.Scan(g.k, root, from, most)
	if g.went(err) {
		return
	}
	if _, is := g.now().trees[root]; is {
		g.gives(what, err, api.OK)
	} else {
		g.gives(what, err, api.ErrNone)
	}
	if want := g.now().from(root, from, most); !slices.Equal(l, want) {
		g.fatal("%s: %v, not %v", what, l, want)
	}
}

// countPages asks how many pages a tree has.
func (g *rig) countPages(root int) {
	g.t.Helper()
	if g.down {
		return
	}
	n, err := btree.Pages(g.k, root)
	if g.went(err) {
		return
	}
	keys, is := g.now().trees[root]
	if !is {
		g.gives(fmt.Sprintf("Pages of %d", root), err, api.ErrNone)
		if n != 0 {
			g.fatal("Pages of %d: %d beside an error", root, n)
		}
		return
	}
	g.gives(fmt.Sprintf("Pages of %d", root), err, api.OK)
	if n < 1 || n > 1+2*len(keys) {
		g.fatal("Pages of %d: %d, with %d keys", root, n, len(keys))
	}
	if has := g.now().has(root); !g.light && n != has {
		g.fatal("Pages of %d: %d, but it has %d", root, n, has)
	}
}

// agrees asks for all that there is, and for some of what there is not.
func (g *rig) agrees() {
	g.t.Helper()
	if g.down {
		return
	}
	s, pages := g.now(), 0
	for _, root := range s.roots() {
		g.scan(root, 0, math.MaxInt)
		g.countPages(root)
		keys := s.keys(root)
		for i, key := range keys {
			if len(keys) < 100 || i%(len(keys)/50) == 0 {
				g.get(root, key)
				g.get(root, key+1)
				g.get(root, key-1)
			}
		}
		for _, key := range []uint64{0, 1, 1 << 63, math.MaxUint64} {
			g.get(root, key)
		}
		if g.light && !g.down {
			n, _ := btree.Pages(g.k, root)
			pages += n
		}
	}
	n, err := space.Used(g.k)
	if g.went(err) {
		return
	}
	if !g.light {
		pages = g.c.Pages - s.has(nobodys) - s.has(maps0)
	}
	if n != pages || err != api.OK {
		g.fatal("Used: %d, %d, not %d", n, err, pages)
	}
}

// crash is a crash and an Open: just the first ones of what was told are there.
func (g *rig) crash(picks []byte) {
	g.t.Helper()
	g.did("crash %v, Open", picks)
	g.gives("Crash", g.d.Crash(picks), api.OK)
	k, err := kernel.Open(g.d, g.c)
	g.gives("Open", err, api.OK)
	g.k, g.act, g.armed, g.down = k, nil, false, false
	is := g.stands()
	for _, s := range append(g.told, g.more...) {
		if slices.Equal(is, s.pages) {
			g.told, g.more = []state{s}, nil
			g.agrees()
			return
		}
	}
	g.fatal("behind the crash there is what was never told")
}

// copy is a rig that goes its own way on a copy of the device.
func (g *rig) copy() *rig {
	h := *g
	h.d, h.k = g.d.Copy(), nil
	h.told, h.more, h.past = slices.Clone(g.told), slices.Clone(g.more), slices.Clone(g.past)
	return &h
}
