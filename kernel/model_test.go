package kernel_test

import (
	"bytes"
	"fmt"
	"maps"
	"math/rand"
	"slices"
	"strings"
	"testing"

	"vicinage/api"
	"vicinage/disk"
	"vicinage/kernel"
)

// The slow model: what is there behind each thing that was told

// state is all pages, and of each open transaction the undos of its actions that
// are to be undone yet, the last one last.
type state struct {
	pages []string
	open  map[uint64][]string
}

func (s state) copy() state {
	open := map[uint64][]string{}
	for txn, l := range s.open {
		open[txn] = slices.Clone(l)
	}
	return state{slices.Clone(s.pages), open}
}

// keep is what Keep is to be.
func (s state) keep() int {
	n := 1300
	for _, l := range s.open {
		n += 80 + 2400*len(l)
	}
	return n
}

// with is the state with one more action of a transaction, or of nobody.
func (s state) with(wrote map[int]string, txn uint64, undo string) state {
	s = s.copy()
	for n, b := range wrote {
		s.pages[n] = b
	}
	if txn != 0 {
		s.open[txn] = slices.Clone(s.open[txn])
		if undo != "" {
			s.open[txn] = append(s.open[txn], undo)
		}
	}
	return s
}

// undone is the state with an action of a transaction undone.
func (s state) undone(wrote map[int]string, txn uint64) state {
	s = s.with(wrote, 0, "")
	s.open[txn] = s.open[txn][:len(s.open[txn])-1]
	return s
}

// without is the state with a transaction no longer open.
func (s state) without(txn uint64) state {
	s = s.copy()
	delete(s.open, txn)
	return s
}

func (s state) equal(o state) bool {
	return slices.Equal(s.pages, o.pages) && maps.EqualFunc(s.open, o.open, slices.Equal)
}

// seen is what a kernel tells of its state.
type seen struct {
	pages []string
	txns  []uint64
	next  []string // of each of these: what is to be undone next, if anything
	keep  int
}

// seen is what a kernel is to tell of the state.
func (s state) seen() seen {
	x := seen{pages: s.pages, txns: slices.Sorted(maps.Keys(s.open)), keep: s.keep()}
	for _, txn := range x.txns {
		next := ""
		if l := s.open[txn]; len(l) > 0 {
			next = l[len(l)-1]
		}
		x.next = append(x.next, next)
	}
	return x
}

func (x seen) equal(o seen) bool {
	return slices.Equal(x.pages, o.pages) && slices.Equal(x.txns, o.txns) && slices.Equal(x.next, o.next) && x.keep == o.keep
}

func (x seen) String() string {
	var l []string
	for _, p := range x.pages {
		l = append(l, short(p))
	}
	return fmt.Sprintf("pages %v, open %v, next %q, kept %d", l, x.txns, x.next, x.keep)
}

// short tells a body by a few of its bytes.
func short(b string) string {
	sum := uint32(0)
	for i := range len(b) {
		sum = sum*16777619 ^ uint32(b[i])
	}
	return fmt.Sprintf("%x", sum)
}

// A kernel and its model

// acting is an open action: of which transaction it undoes one, if it does; what
// it wrote; what was left when it was begun.
type acting struct {
	txn   uint64
	wrote map[int]string
	times int  // how often it changed a page
	twice bool // it changed one more than once
	left  int
}

// rig is a kernel on a device, its model, and what was done to them.
type rig struct {
	t    testing.TB
	d    *disk.Disk
	c    api.Config
	k    *kernel.Kernel
	told []state // what may be there behind a crash: the first of them lasts, and one more may have been told
	more []state // where the power went: what may be there, too
	act  *acting
	was  map[string]map[int]string // by undos: what the pages were that the action wrote
	serl int
	past []string
	down bool
}

// rigged is a new kernel on a device of its own.
func rigged(t testing.TB, c api.Config) *rig {
	t.Helper()
	g := &rig{t: t, c: c, was: map[string]map[int]string{}}
	g.d = made(t, kernel.Sectors(c))
	k, err := kernel.Make(g.d, c)
	g.gives("Make", err, api.OK)
	g.k = k
	g.told = []state{blank(c.Pages)}
	g.did("Make %v", c)
	g.agrees()
	return g
}

// made is a device where no error may be.
func made(t testing.TB, sectors int) *disk.Disk {
	t.Helper()
	d, err := disk.New(sectors, sectors)
	if err != api.OK {
		t.Fatalf("disk.New of %d: error %d", sectors, err)
	}
	return d
}

func blank(pages int) state {
	return state{slices.Repeat([]string{string(make([]byte, 500))}, pages), map[uint64][]string{}}
}

// copy is a rig that goes its own way on a copy of the device, with no kernel yet.
func (g *rig) copy() *rig {
	h := *g
	h.d, h.k, h.act = g.d.Copy(), nil, nil
	h.told, h.more, h.past = slices.Clone(g.told), slices.Clone(g.more), slices.Clone(g.past)
	h.was = maps.Clone(g.was)
	return &h
}

func (g *rig) did(what string, more ...any) { g.past = append(g.past, fmt.Sprintf(what, more...)) }

func (g *rig) fatal(what string, more ...any) {
	g.t.Helper()
	past := g.past
	if len(past) > 120 {
		past = append([]string{".."}, past[len(past)-120:]...)
	}
	g.t.Fatalf("%s\n.. behind %s", fmt.Sprintf(what, more...), strings.Join(past, "; "))
}

// gives ends the test, if a call's error is not what is wanted.
func (g *rig) gives(what string, err api.Errno, want ...api.Errno) {
	g.t.Helper()
	if !slices.Contains(want, err) {
		g.fatal("%s: error %d, not %v", what, err, want)
	}
}

// now is the state as it was told last.
func (g *rig) now() state { return g.told[len(g.told)-1] }

// lasts says that all that was told lasts.
func (g *rig) lasts() { g.told = g.told[len(g.told)-1:] }

// off tells whether the device's power is off.
func (g *rig) off() bool {
	_, err := g.d.Read(0)
	return err == api.ErrDown
}

// ok tells whether a call was done. If the power went at it, more may be there.
func (g *rig) ok(what string, err api.Errno, more []state, want ...api.Errno) bool {
	g.t.Helper()
	g.did("%s: %d", what, err)
	if err == api.ErrDown && g.off() {
		g.down, g.more = true, more
		return false
	}
	g.gives(what, err, want...)
	return err == api.OK
}

// page is the body of a page as it was written last.
func (g *rig) page(n int) string {
	if g.act != nil {
		if b, ok := g.act.wrote[n]; ok {
			return b
		}
	}
	return g.now().pages[n]
}

// The calls, each held against the model

func (g *rig) begin() {
	g.t.Helper()
	if g.down {
		return
	}
	want := api.OK
	if g.act != nil {
		want = api.ErrState
	}
	left := g.k.Left()
	if g.ok("Begin", g.k.Begin(), nil, want) {
		g.act = &acting{wrote: map[int]string{}, left: left}
	}
	g.same(left, g.now().keep())
}

func (g *rig) beginUndo(txn uint64) {
	g.t.Helper()
	if g.down {
		return
	}
	want := api.OK
	switch {
	case g.act != nil:
		want = api.ErrState
	case len(g.now().open[txn]) == 0:
		want = api.ErrNone
	}
	left := g.k.Left()
	if g.ok(fmt.Sprintf("BeginUndo %d", txn), g.k.BeginUndo(txn), nil, want) {
		g.act = &acting{txn: txn, wrote: map[int]string{}, left: left}
	}
	if left != g.k.Left() {
		g.fatal("BeginUndo makes %d be left, not %d", g.k.Left(), left)
	}
}

// same holds what is left, and kept, against what it is to be.
func (g *rig) same(left, keep int) {
	g.t.Helper()
	if g.k.Left() != left || g.k.Keep() != keep {
		g.fatal("%d left, %d kept, not %d and %d", g.k.Left(), g.k.Keep(), left, keep)
	}
}

func (g *rig) read(n int) {
	g.t.Helper()
	if g.down {
		return
	}
	left := g.k.Left()
	b, err := g.k.Read(n)
	if n < 0 || n >= g.c.Pages {
		g.ok(fmt.Sprintf("Read %d", n), err, nil, api.ErrArg)
	} else if g.ok(fmt.Sprintf("Read %d", n), err, nil, api.OK) && string(b) != g.page(n) {
		g.fatal("Read %d: %s, not %s", n, short(string(b)), short(g.page(n)))
	}
	if err != api.OK && len(b) != 0 {
		g.fatal("Read %d: bytes beside an error", n)
	}
	if left != g.k.Left() {
		g.fatal("Read makes %d be left, not %d", g.k.Left(), left)
	}
	// What was answered is the caller's own.
	for i := range b {
		b[i] ^= 255
	}
}

// room is what errors a call may have that is to leave so much, its records
// being from low to high bytes.
func room(left, keep, low, high int) []api.Errno {
	switch {
	case left-high >= keep:
		return []api.Errno{api.OK}
	case left-low < keep:
		return []api.Errno{api.ErrFull}
	}
	return []api.Errno{api.OK, api.ErrFull}
}

// writable is what errors a write of the page n may have that changes it.
func (g *rig) writable(n int) []api.Errno {
	a := g.act
	_, again := a.wrote[n]
	switch {
	case a.txn == 0:
		return room(g.k.Left(), g.now().keep(), 29, 1100)
	case a.times < 2 && !a.twice && !again:
		return []api.Errno{api.OK}
	}
	return room(g.k.Left(), g.now().keep()-2400, 29, 1100)
}

func (g *rig) write(n int, body string) bool {
	g.t.Helper()
	if g.down {
		return false
	}
	want := []api.Errno{api.OK}
	changes := false
	switch {
	case g.act == nil:
		want = []api.Errno{api.ErrState}
	case n < 0 || n >= g.c.Pages || len(body) != 500:
		want = []api.Errno{api.ErrArg}
	case body != g.page(n):
		want, changes = g.writable(n), true
	}
	left := g.k.Left()
	// Room behind it, which is the caller's, too.
	b := append([]byte(body), "beyond"...)[:len(body)]
	ok := g.ok(fmt.Sprintf("Write %d %s", n, short(body)), g.k.Write(n, b), nil, want...)
	if string(b[:len(b)+6]) != body+"beyond" {
		g.fatal("Write has changed what was handed in")
	}
	for i := range b {
		b[i] ^= 255
	}
	took := left - g.k.Left()
	if !ok && took != 0 || ok && !changes && took != 0 || ok && changes && (took < 29 || took > 1100) {
		g.fatal("Write takes %d bytes", took)
	}
	if ok && changes {
		_, again := g.act.wrote[n]
		g.act.twice = g.act.twice || again
		g.act.wrote[n] = body
		g.act.times++
	}
	return ok
}

func (g *rig) end(txn uint64, how string) bool {
	g.t.Helper()
	if g.down {
		return false
	}
	now := g.now()
	_, open := now.open[txn]
	want := []api.Errno{api.OK}
	var next state
	switch {
	case g.act == nil || g.act.txn != 0:
		want = []api.Errno{api.ErrState}
	case len(how) > 64 || txn == 0 && how != "":
		want = []api.Errno{api.ErrArg}
	case txn != 0 && !open && len(now.open) == 16:
		want = []api.Errno{api.ErrLong}
	default:
		next = now.with(g.act.wrote, txn, how)
		// Ahead of the call: where the power goes at it, it may be there all the same.
		if how != "" {
			g.was[how] = g.before()
		}
		want = room(g.k.Left(), next.keep(), 1, 150)
	}
	left := g.k.Left()
	b := append([]byte(how), "beyond"...)[:len(how)]
	ok := g.ok(fmt.Sprintf("End %d %q", txn, how), g.k.End(txn, b), []state{next}, want...)
	if string(b[:len(b)+6]) != how+"beyond" {
		g.fatal("End has changed what was handed in")
	}
	for i := range b {
		b[i] ^= 255
	}
	if took := left - g.k.Left(); !g.down && (!ok && took != 0 || took < 0 || took > 150) {
		g.fatal("End takes %d bytes", took)
	}
	if ok {
		g.ends(next)
	}
	return ok
}

// before is what the pages were that the open action wrote.
func (g *rig) before() map[int]string {
	was := map[int]string{}
	for n := range g.act.wrote {
		was[n] = g.now().pages[n]
	}
	return was
}

// ends says that something more was told.
func (g *rig) ends(next state) {
	g.t.Helper()
	g.act = nil
	g.told = append(g.told, next)
	if got := g.k.Keep(); got != next.keep() {
		g.fatal("Keep: %d, not %d", got, next.keep())
	}
	if got, want := g.k.Txns(), slices.Sorted(maps.Keys(next.open)); !slices.Equal(got, want) {
		g.fatal("Txns: %v, not %v", got, want)
	}
}

func (g *rig) endUndo() bool {
	g.t.Helper()
	if g.down {
		return false
	}
	if g.act == nil || g.act.txn == 0 {
		left := g.k.Left()
		g.ok("EndUndo", g.k.EndUndo(), nil, api.ErrState)
		g.same(left, g.now().keep())
		return false
	}
	next := g.now().undone(g.act.wrote, g.act.txn)
	ok := g.ok("EndUndo", g.k.EndUndo(), []state{next}, api.OK)
	if ok {
		g.ends(next)
	}
	return ok
}

func (g *rig) cancel() {
	g.t.Helper()
	if g.down {
		return
	}
	want, left := api.OK, g.k.Left()
	if g.act == nil {
		want = api.ErrState
	} else {
		left = g.act.left
	}
	if g.ok("Cancel", g.k.Cancel(), nil, want) {
		g.act = nil
	}
	if !g.down {
		g.same(left, g.now().keep())
	}
}

// closes is Commit, or Done.
func (g *rig) closes(what string, txn uint64, call func() api.Errno, there, flushes bool) {
	g.t.Helper()
	if g.down {
		return
	}
	want, left := api.OK, g.k.Left()
	switch {
	case g.act != nil:
		want = api.ErrState
	case txn == 0:
		want = api.ErrArg
	case there && len(g.now().open[txn]) > 0:
		want = api.ErrThere
	}
	next := g.now().without(txn)
	if g.ok(what, call(), []state{next}, want) {
		g.ends(next)
		if flushes {
			g.lasts()
		}
	} else if !g.down {
		g.same(left, g.now().keep())
	}
}

func (g *rig) commit(txn uint64) {
	g.t.Helper()
	g.closes(fmt.Sprintf("Commit %d", txn), txn, func() api.Errno { return g.k.Commit(txn, txn+7) }, false, true)
}

func (g *rig) doneWith(txn uint64) {
	g.t.Helper()
	g.closes(fmt.Sprintf("Done %d", txn), txn, func() api.Errno { return g.k.Done(txn) }, true, false)
}

func (g *rig) clean() {
	g.t.Helper()
	if g.down {
		return
	}
	want, left := api.OK, g.k.Left()
	if g.act != nil {
		want = api.ErrState
	}
	g.ok("Clean", g.k.Clean(), nil, want)
	g.same(left, g.now().keep())
}

func (g *rig) point() bool {
	g.t.Helper()
	if g.down {
		return false
	}
	keep := g.now().keep()
	want := []api.Errno{api.OK}
	if g.act != nil {
		want = []api.Errno{api.ErrState}
	} else if g.k.Left() < keep {
		want = []api.Errno{api.OK, api.ErrFull}
	}
	left := g.k.Left()
	if g.ok("Point", g.k.Point(), nil, want...) {
		g.lasts()
		if g.k.Left() < keep-1300 {
			g.fatal("Point leaves %d, and %d are kept", g.k.Left(), keep)
		}
		return true
	} else if !g.down {
		g.same(left, keep)
	}
	return false
}

// next holds Next of a transaction against the model.
func (g *rig) next(txn uint64) {
	g.t.Helper()
	if g.down {
		return
	}
	b, err := g.k.Next(txn)
	l := g.now().open[txn]
	switch {
	case g.act != nil:
		g.ok(fmt.Sprintf("Next %d", txn), err, nil, api.ErrState)
	case len(l) == 0:
		g.ok(fmt.Sprintf("Next %d", txn), err, nil, api.ErrNone)
	default:
		g.ok(fmt.Sprintf("Next %d", txn), err, nil, api.OK)
		if string(b) != l[len(l)-1] {
			g.fatal("Next %d: %q, not %q", txn, b, l[len(l)-1])
		}
	}
	if err != api.OK && len(b) != 0 {
		g.fatal("Next %d: bytes beside an error", txn)
	}
	for i := range b {
		b[i] ^= 255
	}
}

// Sequences of calls

// how is an undo that no other action has.
func (g *rig) how() string {
	g.serl++
	return fmt.Sprintf("undo %d", g.serl)
}

// fresh is a body that was never written.
func (g *rig) fresh() string {
	g.serl++
	b := make([]byte, 500)
	for i := range b {
		b[i] = byte(g.serl*73 + i*(1+g.serl%11) + g.serl>>8)
	}
	return string(b)
}

// acts is an action that makes pages others.
func (g *rig) acts(txn uint64, how string, pages ...int) {
	g.t.Helper()
	if !g.tries(txn, how, pages...) && !g.down {
		g.fatal("an action is refused")
	}
}

// tries is such an action, or, where it is refused, nothing.
func (g *rig) tries(txn uint64, how string, pages ...int) bool {
	g.t.Helper()
	g.begin()
	ok := true
	for _, n := range pages {
		ok = ok && g.write(n, g.fresh())
	}
	ok = ok && g.end(txn, how)
	if !ok {
		g.cancel()
	}
	return ok
}

// undoes undoes what is to be undone next by writing back what was.
func (g *rig) undoes(txn uint64) {
	g.t.Helper()
	g.next(txn)
	g.beginUndo(txn)
	if g.down {
		return
	}
	l := g.now().open[txn]
	was := g.was[l[len(l)-1]]
	for _, n := range slices.Sorted(maps.Keys(was)) {
		g.write(n, was[n])
	}
	g.endUndo()
}

// undoesAll undoes a transaction, wholly.
func (g *rig) undoesAll(txn uint64) {
	g.t.Helper()
	for !g.down && len(g.now().open[txn]) > 0 {
		g.undoes(txn)
	}
	g.doneWith(txn)
}

// sees is what the kernel tells.
func (g *rig) sees() seen {
	g.t.Helper()
	x := seen{txns: g.k.Txns(), keep: g.k.Keep()}
	for n := range g.c.Pages {
		b, err := g.k.Read(n)
		g.gives(fmt.Sprintf("Read %d", n), err, api.OK)
		x.pages = append(x.pages, string(b))
	}
	for _, txn := range x.txns {
		b, err := g.k.Next(txn)
		g.gives(fmt.Sprintf("Next %d", txn), err, api.OK, api.ErrNone)
		x.next = append(x.next, string(b))
	}
	return x
}

// agrees holds all that the kernel tells against the model; no action is open.
func (g *rig) agrees() {
	g.t.Helper()
	if got, want := g.sees(), g.now().seen(); !got.equal(want) {
		g.fatal("there are %v, not %v", got, want)
	}
	if g.k.Pages() != g.c.Pages {
		g.fatal("Pages: %d", g.k.Pages())
	}
	for _, txn := range []uint64{0, 99} {
		if _, err := g.k.Next(txn); err != api.ErrNone {
			g.fatal("Next %d: %d", txn, err)
		}
	}
	if left, keep := g.k.Left(), g.now().keep(); left < keep-1300 || left > 104*g.c.Ring {
		g.fatal("Left: %d, of %d sectors, and %d are kept", left, g.c.Ring, keep)
	}
}

// opens opens the kernel anew; where the power goes at it it is not.
func (g *rig) opens() bool {
	g.t.Helper()
	k, err := kernel.Open(g.d, g.c)
	g.did("Open: %d", err)
	if err == api.ErrDown && g.off() {
		if k != nil {
			g.fatal("Open: a kernel beside an error")
		}
		return false
	}
	g.gives("Open", err, api.OK)
	g.gives("Arm", g.d.Arm(0), api.OK)
	g.k, g.act, g.down = k, nil, false
	g.finds()
	return true
}

// finds takes it into the model what a kernel that was opened anew tells: just
// the first ones of what was told, all that lasts among them.
func (g *rig) finds() {
	g.t.Helper()
	got := g.sees()
	may := append(slices.Clone(g.told), g.more...)
	for i, s := range slices.Backward(may) {
		if got.equal(s.seen()) {
			g.did("found is %d of %d and %d", i, len(g.told), len(g.more))
			g.told, g.more = []state{s}, nil
			g.agrees()
			return
		}
	}
	var l []string
	for _, s := range may {
		l = append(l, s.seen().String())
	}
	g.fatal("found are %v; there may be\n%s", got, strings.Join(l, "\n"))
}

// crash is a crash, and the kernel is opened anew.
func (g *rig) crash(picks []byte) {
	g.t.Helper()
	g.power(picks)
	if !g.opens() {
		g.fatal("Open is refused behind a crash")
	}
}

// power is a crash.
func (g *rig) power(picks []byte) {
	g.t.Helper()
	g.gives("Crash", g.d.Crash(picks), api.OK)
	g.did("Crash %v", picks)
}

// Calls that are drawn

// draws does a call that is drawn.
func (g *rig) draws(r *rand.Rand) {
	g.t.Helper()
	txn := uint64(r.Intn(5))
	if r.Intn(8) == 0 {
		txn = uint64(r.Intn(20))
	}
	switch r.Intn(24) {
	case 0, 1, 2:
		g.begin()
	case 3:
		g.beginUndo(txn)
	case 4, 5, 6, 7, 8:
		g.write(r.Intn(g.c.Pages+2)-1, g.drawn(r))
	case 9, 10:
		g.read(r.Intn(g.c.Pages+2) - 1)
	case 11, 12, 13:
		g.end(txn, g.drawnUndo(r))
	case 14:
		g.endUndo()
	case 15:
		g.cancel()
	case 16:
		g.commit(txn)
	case 17:
		g.doneWith(txn)
	case 18:
		g.clean()
	case 19:
		g.point()
	case 20:
		g.next(txn)
	case 21:
		if g.act == nil {
			g.tries(txn, g.drawnUndoOf(r, txn), r.Intn(g.c.Pages), r.Intn(g.c.Pages))
		}
	case 22:
		if g.act == nil && len(g.now().open[txn]) > 0 {
			g.undoes(txn)
		}
	case 23:
		g.frees(r)
	}
}

// frees makes room in a log that may be full.
func (g *rig) frees(r *rand.Rand) {
	g.t.Helper()
	if g.act != nil {
		g.cancel()
	}
	if g.down || g.k.Left() > g.now().keep()+2000 {
		return
	}
	for _, txn := range slices.Sorted(maps.Keys(g.now().open)) {
		if r.Intn(2) == 0 {
			g.commit(txn)
		} else {
			g.undoesAll(txn)
		}
	}
	g.clean()
	g.point()
}

// drawn is a body: of a page that there is, with some changed; or another one.
func (g *rig) drawn(r *rand.Rand) string {
	switch r.Intn(12) {
	case 0:
		return strings.Repeat("x", []int{0, 1, 499, 501}[r.Intn(4)])
	case 1, 2:
		return g.fresh()
	case 3:
		return string(make([]byte, 500))
	}
	b := []byte(g.page(r.Intn(g.c.Pages)))
	for range r.Intn(4) {
		from := r.Intn(500)
		for i := from; i < min(500, from+1+r.Intn(60)); i++ {
			b[i] = byte(r.Intn(256))
		}
	}
	return string(b)
}

func (g *rig) drawnUndo(r *rand.Rand) string {
	switch r.Intn(6) {
	case 0, 1:
		return ""
	case 2:
		g.serl++
		return fmt.Sprintf("%-64d", g.serl)
	case 3:
		return strings.Repeat("x", 65)
	}
	return g.how()
}

func (g *rig) drawnUndoOf(r *rand.Rand, txn uint64) string {
	if txn == 0 || r.Intn(4) == 0 {
		return ""
	}
	return g.how()
}

// pick is picks that are drawn.
func pick(r *rand.Rand) []byte {
	b := make([]byte, 1+r.Intn(12))
	switch r.Intn(3) {
	case 0:
		r.Read(b)
	case 1:
		b = bytes.Repeat([]byte{byte(r.Intn(4))}, 40)
	default:
		for i := range b {
			b[i] = byte(r.Intn(2))
		}
	}
	return b
}

// drawnRun is calls that are drawn, crashes among them.
func drawnRun(t *testing.T, seed int64, c api.Config, calls int) {
	t.Helper()
	r := rand.New(rand.NewSource(seed))
	g := rigged(t, c)
	g.did("seed %d", seed)
	for range calls {
		armed := r.Intn(25) == 0
		if armed {
			n := 1 + r.Intn(30)
			g.gives("Arm", g.d.Arm(n), api.OK)
			g.did("Arm %d", n)
			for range 10 {
				g.draws(r)
			}
		} else {
			g.draws(r)
		}
		switch {
		case g.down:
			g.dead()
			g.again(r)
		case r.Intn(60) == 0:
			g.again(r)
		case armed:
			g.gives("Arm", g.d.Arm(0), api.OK)
		case g.act == nil && r.Intn(20) == 0:
			g.agrees()
		}
	}
}

// again is crashes, and openings that are cut off, till one is not.
func (g *rig) again(r *rand.Rand) {
	g.t.Helper()
	if g.down || r.Intn(4) > 0 {
		g.power(pick(r))
	} else {
		g.gives("Arm", g.d.Arm(0), api.OK)
	}
	for r.Intn(3) == 0 {
		n := 1 + r.Intn(30)
		g.gives("Arm", g.d.Arm(n), api.OK)
		g.did("Arm %d", n)
		if g.opens() {
			return
		}
		g.power(pick(r))
	}
	if !g.opens() {
		g.fatal("Open is refused behind a crash")
	}
}

// dead holds a kernel against what one is to tell whose device has told an error.
func (g *rig) dead() {
	g.t.Helper()
	for name, err := range tells(g.k) {
		if err != api.ErrDown {
			g.fatal("%s without power: error %d", name, err)
		}
	}
}

// tells is what all calls tell that may tell an error.
func tells(k *kernel.Kernel) map[string]api.Errno {
	_, read := k.Read(0)
	_, next := k.Next(1)
	return map[string]api.Errno{
		"Begin":     k.Begin(),
		"BeginUndo": k.BeginUndo(1),
		"Read":      read,
		"Write":     k.Write(0, make([]byte, 500)),
		"End":       k.End(0, nil),
		"EndUndo":   k.EndUndo(),
		"Cancel":    k.Cancel(),
		"Next":      next,
		"Commit":    k.Commit(1, 1),
		"Done":      k.Done(1),
		"Clean":     k.Clean(),
		"Point":     k.Point(),
	}
}

// TestDrawn: calls that are drawn do what the model says, and behind power cuts
// and crashes there is what may be there.
func TestDrawn(t *testing.T) {
	for seed := range int64(60) {
		drawnRun(t, seed, api.Config{Ring: 16 + int(seed*7)%200, Pages: 1 + int(seed)%7, Frames: 1 + int(seed/3)%4}, 1500)
	}
}
