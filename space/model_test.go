package space_test

import (
	"fmt"
	"math/rand"
	"slices"
	"strings"
	"testing"

	"vicinage/api"
	"vicinage/disk"
	"vicinage/kernel"
	"vicinage/space"
)

// The slow model: which pages are in use, and what stands in all that are not the map's

// state is of each page whether it is in use, and its body (of the map's: none).
type state struct {
	in     []bool
	bodies []string
}

var noughts = string(make([]byte, 500))

// own is how many of the first pages are the map's.
func own(pages int) int {
	n := 0
	for n*4000 < pages {
		n++
	}
	return n
}

func (s state) copy() state { return state{slices.Clone(s.in), slices.Clone(s.bodies)} }

// body is what is to stand in a page: of the map's the bits, one by one.
func (s state) body(n int) string {
	if n >= own(len(s.in)) {
		return s.bodies[n]
	}
	b := make([]byte, 500)
	for page, in := range s.in {
		if in && page/4000 == n {
			b[page%4000/8] |= 1 << (page % 4000 % 8)
		}
	}
	return string(b)
}

// all is what is to stand in all pages.
func (s state) all() []string {
	var l []string
	for n := range s.in {
		l = append(l, s.body(n))
	}
	return l
}

// used is what Used is to be.
func (s state) used() int {
	n := -own(len(s.in))
	for _, in := range s.in {
		if in {
			n++
		}
	}
	return n
}

// empty is the state with no page in use but the map's.
func (s state) empty() state {
	s = s.copy()
	for n := range s.in {
		s.in[n] = n < own(len(s.in))
	}
	return s
}

// A kernel and its model

// rig is a kernel on a device, its model, and what was done to them.
type rig struct {
	t           testing.TB
	d           *disk.Disk
	c           api.Config
	k           *kernel.Kernel
	told        []state // what may be there behind a crash: the last of them is what is there now
	act         *state  // what is there in the open action
	more        []state // where the power went: what may be there, too
	serl        int
	past        []string
	armed, down bool // the power will go; it went
}

// blank is a new kernel, on a device of its own, whose map was never made.
func blank(t testing.TB, c api.Config) *rig {
	t.Helper()
	g := &rig{t: t, c: c}
	d, err := disk.New(kernel.Sectors(c), kernel.Sectors(c))
	g.gives("disk.New", err, api.OK)
	k, err := kernel.Make(d, c)
	g.gives("Make", err, api.OK)
	g.d, g.k = d, k
	s := state{make([]bool, c.Pages), slices.Repeat([]string{noughts}, c.Pages)}
	g.told = []state{s}
	g.did("Make %v", c)
	return g
}

// rigged is a new kernel whose map was made.
func rigged(t testing.TB, c api.Config) *rig {
	t.Helper()
	g := blank(t, c)
	g.begin()
	g.init()
	g.end()
	g.commit()
	return g
}

// roomy is a config with room for some thousand writes.
func roomy(pages, frames int) api.Config {
	return api.Config{Ring: min(8192, 65536-7-4*pages), Pages: pages, Frames: frames}
}

func (g *rig) did(what string, more ...any) { g.past = append(g.past, fmt.Sprintf(what, more...)) }

func (g *rig) fatal(what string, more ...any) {
	g.t.Helper()
	past := g.past
	if len(past) > 120 {
		past = append([]string{".."}, past[len(past)-120:]...)
	}
	g.t.Fatalf("%s\n.. behind %s", fmt.Sprintf(what, more...), strings.Join(past, "; "))
}

// gives ends the test, if a call's error is not what is wanted.
func (g *rig) gives(what string, err api.Errno, want ...api.Errno) {
	g.t.Helper()
	if !slices.Contains(want, err) {
		g.fatal("%s: error %d, not %v", what, err, want)
	}
}

// went tells that the power went in a call, behind which one more state may be there.
func (g *rig) went(err api.Errno, more ...state) bool {
	if err == api.ErrDown && g.armed {
		g.down = true
		g.more = more
	}
	return g.down
}

// now is what is there.
func (g *rig) now() *state {
	if g.act != nil {
		return g.act
	}
	return &g.told[len(g.told)-1]
}

// fresh is a body that was not there yet.
func (g *rig) fresh() string {
	g.serl++
	b := make([]byte, 500)
	rand.New(rand.NewSource(int64(g.serl))).Read(b)
	return string(b)
}

// Calls, each with what it is to answer

func (g *rig) begin() {
	g.t.Helper()
	if g.down {
		return
	}
	err := g.k.Begin()
	if g.went(err) {
		return
	}
	g.gives("Begin", err, api.OK)
	s := g.now().copy()
	g.act = &s
	g.did("Begin")
}

// end ends the open action for nobody.
func (g *rig) end() { g.t.Helper(); g.endFor(0, "") }

func (g *rig) endFor(txn uint64, undo string) {
	g.t.Helper()
	if g.down {
		return
	}
	err := g.k.End(txn, []byte(undo))
	if g.went(err, *g.act) {
		return
	}
	g.gives("End", err, api.OK)
	g.ended()
	g.did("End %d", txn)
}

func (g *rig) ended() { g.told, g.act = append(g.told, *g.act), nil }

func (g *rig) cancel() {
	g.t.Helper()
	if g.down {
		return
	}
	err := g.k.Cancel()
	if g.went(err) {
		return
	}
	g.gives("Cancel", err, api.OK)
	g.act = nil
	g.did("Cancel")
}

// commit makes all last that was told.
func (g *rig) commit() {
	g.t.Helper()
	if g.down {
		return
	}
	err := g.k.Commit(1<<40, 1)
	if g.went(err) {
		return
	}
	g.gives("Commit", err, api.OK)
	g.told = g.told[len(g.told)-1:]
	g.did("Commit")
}

// tidy gives up what of the log is not wanted.
func (g *rig) tidy() {
	g.t.Helper()
	if g.down {
		return
	}
	err := g.k.Clean()
	if g.went(err) {
		return
	}
	g.gives("Clean", err, api.OK)
	err = g.k.Point()
	if g.went(err) {
		return
	}
	g.gives("Point", err, api.OK)
	g.told = g.told[len(g.told)-1:]
	g.did("Clean, Point")
}

func (g *rig) init() {
	g.t.Helper()
	if g.down {
		return
	}
	err := space.Init(g.k)
	if g.went(err) {
		return
	}
	g.gives("Init", err, api.OK)
	*g.now() = g.now().empty()
	g.did("Init")
}

// alloc tells the page that was handed out; -1, if there was none.
func (g *rig) alloc() int {
	g.t.Helper()
	if g.down {
		return -1
	}
	s := g.now()
	n, err := space.Alloc(g.k)
	switch {
	case g.went(err):
		return -1
	case !slices.Contains(s.in, false):
		g.gives("Alloc where all pages are in use", err, api.ErrFull)
		if n != 0 {
			g.fatal("Alloc: %d beside ErrFull", n)
		}
		return -1
	}
	g.gives("Alloc", err, api.OK)
	if n < own(len(s.in)) || n >= len(s.in) || s.in[n] {
		g.fatal("Alloc: %d, which is in use, or none", n)
	}
	s.in[n], s.bodies[n] = true, noughts
	g.did("Alloc %d", n)
	return n
}

func (g *rig) free(n int) {
	g.t.Helper()
	if g.down {
		return
	}
	s := g.now()
	err := space.Free(g.k, n)
	if g.went(err) {
		return
	}
	want := api.OK
	switch {
	case n < own(len(s.in)) || n >= len(s.in):
		want = api.ErrArg
	case !s.in[n]:
		want = api.ErrNone
	}
	g.gives(fmt.Sprintf("Free %d", n), err, want)
	if err == api.OK {
		s.in[n] = false
	}
	g.did("Free %d: %d", n, err)
}

// write writes a page that is not the map's.
func (g *rig) write(n int, body string) {
	g.t.Helper()
	if g.down {
		return
	}
	err := g.k.Write(n, []byte(body))
	if g.went(err) {
		return
	}
	g.gives("Write", err, api.OK)
	g.now().bodies[n] = body
	g.did("Write %d", n)
}

func (g *rig) isIn(n int) {
	g.t.Helper()
	if g.down {
		return
	}
	s := g.now()
	in, err := space.In(g.k, n)
	if g.went(err) {
		return
	}
	if n < 0 || n >= len(s.in) {
		g.gives(fmt.Sprintf("In %d", n), err, api.ErrArg)
		if in {
			g.fatal("In %d: true beside an error", n)
		}
		return
	}
	g.gives(fmt.Sprintf("In %d", n), err, api.OK)
	if in != s.in[n] {
		g.fatal("In %d: %v", n, in)
	}
}

func (g *rig) isUsed() {
	g.t.Helper()
	if g.down {
		return
	}
	n, err := space.Used(g.k)
	if g.went(err) {
		return
	}
	g.gives("Used", err, api.OK)
	if n != g.now().used() {
		g.fatal("Used: %d, not %d", n, g.now().used())
	}
}

// agrees asks for all that there is.
func (g *rig) agrees() {
	g.t.Helper()
	if g.down {
		return
	}
	g.isUsed()
	for n := -1; n <= g.c.Pages; n++ {
		g.isIn(n)
	}
	got, want := g.read(), g.now().all()
	for n := range want {
		if got[n] != want[n] {
			g.fatal("page %d is another one: %x.., not %x..", n, got[n][:20], want[n][:20])
		}
	}
}

// read is what stands in all pages.
func (g *rig) read() []string {
	g.t.Helper()
	var l []string
	for n := range g.c.Pages {
		b, err := g.k.Read(n)
		g.gives("Read", err, api.OK)
		l = append(l, string(b))
	}
	return l
}

// crash is a crash and an Open: just the first ones of what was told are there.
func (g *rig) crash(picks []byte) {
	g.t.Helper()
	g.did("crash %v, Open", picks)
	g.gives("Crash", g.d.Crash(picks), api.OK)
	k, err := kernel.Open(g.d, g.c)
	g.gives("Open", err, api.OK)
	g.k, g.act, g.armed, g.down = k, nil, false, false
	got := g.read()
	for _, s := range append(g.told, g.more...) {
		if slices.Equal(got, s.all()) {
			g.told, g.more = []state{s}, nil
			g.agrees()
			return
		}
	}
	g.fatal("behind the crash there is what was never told")
}
