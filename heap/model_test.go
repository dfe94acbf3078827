package heap_test

import (
	"bytes"
	"fmt"
	"maps"
	"math"
	"math/rand"
	"slices"
	"strings"
	"testing"

	"vicinage/api"
	"vicinage/disk"
	"vicinage/heap"
	"vicinage/kernel"
	"vicinage/space"
)

// The slow model: which things each heap has, and whose each page is

// thing is a heap's root, and a thing's bytes.
type thing struct {
	root int
	b    string
}

// Whose a page is, but for a heap's, which is told by its root.
const (
	nobodys = 0
	maps0   = -1 // the map's
	ours    = -2 // the test's own
)

// state is what there is. Of the pages' bytes the model knows nothing of its own:
// they are those that stood there when the state was told.
type state struct {
	things map[uint64]thing
	owner  []int // of each page
	pages  []string
}

func (s state) copy() state {
	return state{maps.Clone(s.things), slices.Clone(s.owner), slices.Clone(s.pages)}
}

// isRoot tells whether a page is a heap's root.
func (s state) isRoot(n int) bool { return n > 0 && n < len(s.owner) && s.owner[n] == n }

// of is the ids of a heap's things, rising.
func (s state) of(root int) []uint64 {
	var l []uint64
	for id, x := range s.things {
		if x.root == root {
			l = append(l, id)
		}
	}
	slices.Sort(l)
	return l
}

// ids is the ids of all things, rising.
func (s state) ids() []uint64 { return slices.Sorted(maps.Keys(s.things)) }

// has is how many pages a heap has, or nobody.
func (s state) has(root int) int {
	n := 0
	for _, o := range s.owner {
		if o == root {
			n++
		}
	}
	return n
}

// most is how many pages a heap has at most, by the chapter's words.
func (s state) most(root int) int {
	n := 1
	for _, id := range s.of(root) {
		n += mostFor(len(s.things[id].b))
	}
	return n
}

// mostFor is how many pages a thing of so many bytes takes at most.
func mostFor(size int) int {
	n := 1
	for beyond := size - 180; beyond > 0; beyond -= 493 {
		n++
	}
	return n
}

// A kernel and its model

// rig is a kernel on a device, its model, and what was done to them.
type rig struct {
	t           testing.TB
	d           *disk.Disk
	c           api.Config
	k           *kernel.Kernel
	told        []state // what may be there behind a crash: the last of them is what is there now
	act         *state  // what is there in the open action
	more        []state // where the power went: what may be there, too
	gone        map[uint64]bool
	serl        int
	past        []string
	armed, down bool // the power will go; it went
}

// rigged is a new kernel whose map was made.
func rigged(t testing.TB, c api.Config) *rig {
	t.Helper()
	g := &rig{t: t, c: c, gone: map[uint64]bool{}}
	d, err := disk.New(kernel.Sectors(c), kernel.Sectors(c))
	g.gives("disk.New", err, api.OK)
	k, err := kernel.Make(d, c)
	g.gives("Make", err, api.OK)
	g.d, g.k = d, k
	g.gives("Begin", k.Begin(), api.OK)
	g.gives("Init", space.Init(k), api.OK)
	g.gives("End", k.End(0, nil), api.OK)
	g.gives("Commit", k.Commit(1<<40, 1), api.OK)
	s := state{map[uint64]thing{}, make([]int, c.Pages), nil}
	for n := range space.Maps(c.Pages) {
		s.owner[n] = maps0
	}
	s.pages = g.stands()
	g.told = []state{s}
	g.did("Make %v", c)
	return g
}

// withHeaps is a new kernel with so many heaps.
func withHeaps(t testing.TB, c api.Config, n int) (*rig, []int) {
	t.Helper()
	g := rigged(t, c)
	g.begin()
	var roots []int
	for range n {
		roots = append(roots, g.make())
	}
	g.end()
	g.commit()
	return g, roots
}

// roomy is a config with room for some thousand writes.
func roomy(pages, frames int) api.Config {
	return api.Config{Ring: min(8192, 65536-7-4*pages), Pages: pages, Frames: frames}
}

func (g *rig) did(what string, more ...any) { g.past = append(g.past, fmt.Sprintf(what, more...)) }

func (g *rig) fatal(what string, more ...any) {
	g.t.Helper()
	past := g.past
	if len(past) > 120 {
		past = append([]string{".."}, past[len(past)-120:]...)
	}
	g.t.Fatalf("%s\n.. behind %s", fmt.Sprintf(what, more...), strings.Join(past, "; "))
}

// gives ends the test, if a call's error is not what is wanted.
func (g *rig) gives(what string, err api.Errno, want ...api.Errno) {
	g.t.Helper()
	if !slices.Contains(want, err) {
		g.fatal("%s: error %d, not %v", what, err, want)
	}
}

// went tells that the power went in a call, behind which one more state may be there.
func (g *rig) went(err api.Errno, more ...state) bool {
	if err == api.ErrDown && g.armed {
		g.down = true
		g.more = more
	}
	return g.down
}

// now is what is there.
func (g *rig) now() *state {
	if g.act != nil {
		return g.act
	}
	return &g.told[len(g.told)-1]
}

// fresh is so many bytes that were not there yet.
func (g *rig) fresh(n int) string {
	g.serl++
	b := make([]byte, n)
	rand.New(rand.NewSource(int64(g.serl))).Read(b)
	return string(b)
}

// stands is what stands in all pages; nothing, if the power goes.
func (g *rig) stands() []string {
	g.t.Helper()
	var l []string
	for n := range g.c.Pages {
		b, err := g.k.Read(n)
		if g.went(err, g.more...) {
			return nil
		}
		g.gives("the kernel's Read", err, api.OK)
		l = append(l, string(b))
	}
	return l
}

// used is which pages are in use, by the map that stands in the first ones.
func used(pages []string) []bool {
	l := make([]bool, len(pages))
	for n := range l {
		l[n] = pages[n/4000][n%4000/8]>>(n%8)&1 == 1
	}
	return l
}

// changed looks at what a call that wrote for a heap has changed: only pages of the
// heap, such as were nobody's, and the map.
func (g *rig) changed(what string, root int) {
	g.t.Helper()
	s, is := g.now(), g.stands()
	if g.down {
		return
	}
	in := used(is)
	for n, was := range s.pages {
		if was != is[n] && s.owner[n] != root && s.owner[n] != nobodys && s.owner[n] != maps0 {
			g.fatal("%s of the heap %d: the page %d was changed, which is of %d", what, root, n, s.owner[n])
		}
		switch {
		case in[n] && s.owner[n] == nobodys:
			s.owner[n] = root
		case !in[n] && s.owner[n] == root && n != root:
			s.owner[n] = nobodys
		case in[n] != (s.owner[n] != nobodys):
			g.fatal("%s of the heap %d: the page %d of %d is in use: %v", what, root, n, s.owner[n], in[n])
		}
	}
	s.pages = is
	if has, most := s.has(root), s.most(root); has > most {
		g.fatal("%s: the heap %d has %d pages, at most %d may be", what, root, has, most)
	}
	if len(s.of(root)) == 0 && s.has(root) != 1 {
		g.fatal("%s: the heap %d of nothing has %d pages", what, root, s.has(root))
	}
}

// unchanged looks at it that a call has changed nothing.
func (g *rig) unchanged(what string, left int) {
	g.t.Helper()
	is := g.stands()
	if g.down {
		return
	}
	if !slices.Equal(is, g.now().pages) {
		g.fatal("%s has changed pages", what)
	}
	if g.k.Left() != left {
		g.fatal("%s has written: Left is %d, not %d", what, g.k.Left(), left)
	}
}

// Calls of the kernel

func (g *rig) begin() {
	g.t.Helper()
	if g.down {
		return
	}
	err := g.k.Begin()
	if g.went(err) {
		return
	}
	g.gives("Begin", err, api.OK)
	s := g.now().copy()
	g.act = &s
	g.did("Begin")
}

// end ends the open action for nobody.
func (g *rig) end() { g.t.Helper(); g.endFor(0, "") }

func (g *rig) endFor(txn uint64, undo string) {
	g.t.Helper()
	if g.down {
		return
	}
	err := g.k.End(txn, []byte(undo))
	if g.went(err, *g.act) {
		return
	}
	g.gives("End", err, api.OK)
	g.ended()
	g.did("End %d", txn)
}

func (g *rig) ended() { g.told, g.act = append(g.told, *g.act), nil }

// cancel cancels the open action: all is as it was.
func (g *rig) cancel() {
	g.t.Helper()
	if g.down {
		return
	}
	err := g.k.Cancel()
	if g.went(err) {
		return
	}
	g.gives("Cancel", err, api.OK)
	g.act = nil
	g.did("Cancel")
	if is := g.stands(); !g.down && !slices.Equal(is, g.now().pages) {
		g.fatal("behind Cancel pages are not as they were")
	}
}

// commit makes all last that was told.
func (g *rig) commit() {
	g.t.Helper()
	if g.down {
		return
	}
	err := g.k.Commit(1<<40, 1)
	if g.went(err) {
		return
	}
	g.gives("Commit", err, api.OK)
	g.told = g.told[len(g.told)-1:]
	g.did("Commit")
}

// tidy gives up what of the log is not wanted.
func (g *rig) tidy() {
	g.t.Helper()
	if g.down {
		return
	}
	err := g.k.Clean()
	if g.went(err) {
		return
	}
	g.gives("Clean", err, api.OK)
	err = g.k.Point()
	if g.went(err) {
		return
	}
	g.gives("Point", err, api.OK)
	g.told = g.told[len(g.told)-1:]
	g.did("Clean, Point")
}

// takes hands out a page to the test, with bytes of its own; it tells 0, if there is none.
func (g *rig) takes(body string) int {
	g.t.Helper()
	n, err := space.Alloc(g.k)
	if err == api.ErrFull {
		return 0
	}
	g.gives("Alloc", err, api.OK)
	g.gives("Write", g.k.Write(n, []byte(body)), api.OK)
	s := g.now()
	s.owner[n] = ours
	s.pages = g.stands()
	g.did("our page %d", n)
	return n
}

// room is how much a call may write.
func (g *rig) room() int { return g.k.Left() - g.k.Keep() }

// Calls of the heap, each with what it is to answer

// make tells the root of a new heap; 0, if there is none: then the action is cancelled.
func (g *rig) make() int {
	g.t.Helper()
	if g.down {
		return 0
	}
	s := g.now()
	root, err := heap.Make(g.k)
	switch {
	case g.went(err):
		return 0
	case s.has(nobodys) == 0 || err == api.ErrFull && g.room() < 5000:
		g.gives("Make", err, api.ErrFull)
		if root != 0 {
			g.fatal("Make: %d beside ErrFull", root)
		}
		g.cancel()
		return 0
	}
	g.gives("Make", err, api.OK)
	if root < 1 || root >= g.c.Pages || s.owner[root] != nobodys {
		g.fatal("Make: %d, which is in use, or none", root)
	}
	g.did("Make: %d", root)
	g.changed("Make", root)
	return root
}

// insert tells the id of a thing that was put in; 0, if it was not: where it was for
// want of room, the action is cancelled.
func (g *rig) insert(root int, b string) uint64 {
	g.t.Helper()
	if g.down {
		return 0
	}
	s, what := g.now(), fmt.Sprintf("Insert of %d bytes", len(b))
	left, room, free := g.k.Left(), g.room(), s.has(nobodys)
	id, err := heap.Insert(g.k, root, []byte(b))
	if g.went(err) {
		return 0
	}
	g.did("%s into %d: %#x, %d", what, root, id, err)
	if err != api.OK && id != 0 {
		g.fatal("%s: %#x beside an error", what, id)
	}
	switch {
	case !s.isRoot(root):
		g.gives(what, err, api.ErrNone)
		g.unchanged(what, left)
		return 0
	case len(b) > 17700:
		g.gives(what, err, api.ErrLong)
		g.unchanged(what, left)
		return 0
	case err == api.ErrFull && (free < mostFor(len(b)) || room < 4000*(1+mostFor(len(b)))):
		g.cancel()
		return 0
	}
	g.gives(what, err, api.OK)
	if _, is := s.things[id]; is || id < 256 || id >= 1<<48 {
		g.fatal("%s: the id %#x", what, id)
	}
	s.things[id] = thing{root, b}
	delete(g.gone, id)
	g.changed(what, root)
	return id
}

// read asks for a thing, that may be there or not.
func (g *rig) read(id uint64) {
	g.t.Helper()
	if g.down {
		return
	}
	b, err := heap.Read(g.k, id)
	if g.went(err) {
		return
	}
	if err != api.OK && len(b) > 0 {
		g.fatal("Read of %#x: %d bytes beside an error", id, len(b))
	}
	x, is := g.now().things[id]
	if !is {
		g.gives(fmt.Sprintf("Read of %#x, which is not there", id), err, api.ErrNone)
		return
	}
	g.gives(fmt.Sprintf("Read of %#x", id), err, api.OK)
	if string(b) != x.b {
		g.fatal("Read of %#x: %d bytes, which are others than the %d", id, len(b), len(x.b))
	}
}

// patch tells whether a thing was written over; where it was not for want of room,
// the action is cancelled.
func (g *rig) patch(id uint64, off int, b string) bool {
	g.t.Helper()
	if g.down {
		return false
	}
	s, what := g.now(), fmt.Sprintf("Patch of %#x at %d with %d bytes", id, off, len(b))
	left, room := g.k.Left(), g.room()
	err := heap.Patch(g.k, id, off, []byte(b))
	if g.went(err) {
		return false
	}
	g.did("%s: %d", what, err)
	x, is := s.things[id]
	switch {
	case !is:
		g.gives(what, err, api.ErrNone)
		g.unchanged(what, left)
		return false
	case off < 0 || off > 64 || off+len(b) > 64 || off+len(b) > len(x.b):
		g.gives(what, err, api.ErrArg)
		g.unchanged(what, left)
		return false
	case err == api.ErrFull && room < 1200:
		g.cancel()
		return false
	}
	g.gives(what, err, api.OK)
	s.things[id] = thing{x.root, x.b[:off] + b + x.b[off+len(b):]}
	was := s.pages
	g.changed(what, x.root)
	others := 0
	for n := range was {
		if was[n] != s.pages[n] {
			others++
		}
	}
	if others > 1 || others == 0 && x.b[off:off+len(b)] != b {
		g.fatal("%s has changed %d pages", what, others)
	}
	if left-g.k.Left() > 1100 {
		g.fatal("%s has written %d bytes", what, left-g.k.Left())
	}
	return true
}

// remove tells whether a thing was deleted; where it was not for want of room, the
// action is cancelled.
func (g *rig) remove(root int, id uint64) bool {
	g.t.Helper()
	if g.down {
		return false
	}
	s, what := g.now(), fmt.Sprintf("Delete of %#x", id)
	left, room := g.k.Left(), g.room()
	err := heap.Delete(g.k, root, id)
	if g.went(err) {
		return false
	}
	g.did("%s in %d: %d", what, root, err)
	x, is := s.things[id]
	switch {
	case !s.isRoot(root) || !is:
		g.gives(what, err, api.ErrNone)
		g.unchanged(what, left)
		return false
	case err == api.ErrFull && room < 2000*(1+mostFor(len(x.b))):
		g.cancel()
		return false
	}
	g.gives(what, err, api.OK)
	delete(s.things, id)
	g.gone[id] = true
	g.changed(what, root)
	return true
}

// agrees asks for all that there is, and for what there is no more.
func (g *rig) agrees() {
	g.t.Helper()
	if g.down {
		return
	}
	s := g.now()
	for _, id := range s.ids() {
		g.read(id)
	}
	for id := range g.gone {
		if _, is := s.things[id]; !is {
			g.read(id)
		}
	}
	for _, id := range []uint64{0, 1, 255, 1 << 48, math.MaxUint64} {
		g.read(id)
	}
	n, err := space.Used(g.k)
	if g.went(err) {
		return
	}
	if want := g.c.Pages - s.has(nobodys) - s.has(maps0); n != want || err != api.OK {
		g.fatal("Used: %d, %d, not %d", n, err, want)
	}
}

// crash is a crash and an Open: just the first ones of what was told are there.
func (g *rig) crash(picks []byte) {
	g.t.Helper()
	g.did("crash %v, Open", picks)
	g.gives("Crash", g.d.Crash(picks), api.OK)
	k, err := kernel.Open(g.d, g.c)
	g.gives("Open", err, api.OK)
	g.k, g.act, g.armed, g.down = k, nil, false, false
	is := g.stands()
	for _, s := range append(g.told, g.more...) {
		for id := range s.things {
			g.gone[id] = true
		}
	}
	for _, s := range append(g.told, g.more...) {
		if slices.Equal(is, s.pages) {
			g.told, g.more = []state{s}, nil
			g.agrees()
			return
		}
	}
	g.fatal("behind the crash there is what was never told")
}

// copy is a rig that goes its own way on a copy of the device.
func (g *rig) copy() *rig {
	h := *g
	h.d, h.k, h.gone = g.d.Copy(), nil, maps.Clone(g.gone)
	h.told, h.more, h.past = slices.Clone(g.told), slices.Clone(g.more), slices.Clone(g.past)
	return &h
}

// sameBytes tells whether a list is as it was, with what is behind it.
func sameBytes(b, was []byte) bool { return bytes.Equal(b[:cap(b)], was) }
