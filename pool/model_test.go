package pool_test

import (
	"bytes"
	"fmt"
	"maps"
	"math/rand"
	"slices"
	"strings"
	"testing"

	"vicinage/api"
	"vicinage/crc"
	"vicinage/disk"
	"vicinage/page"
	"vicinage/pool"
	"vicinage/wal"
)

// Pages that no sum tells from each other

// blind is five bytes that change no sum where they are added, bit by bit, to others.
func blind(v byte) []byte {
	x := crc.Sum([]byte{v}) ^ crc.Sum([]byte{0})
	return []byte{v, byte(x), byte(x >> 8), byte(x >> 16), byte(x >> 24)}
}

// add adds bytes to those from a place on, bit by bit.
func add(b []byte, from int, more []byte) {
	for i, x := range more {
		b[from+i] ^= x
	}
}

// paper is a page that tells its number, its Lsn and which of its versions it is
// in each half of its sectors. Halves of any pages that are even together, or
// that are odd, have the right sum, whichever they are.
func paper(n, version int, lsn uint64) api.Paper {
	b := make([]byte, 512)
	if n%2 == 0 {
		copy(b[12:], text(500, 3))
	}
	var l [8]byte
	for i := range l {
		l[i] = byte(lsn >> (8 * i))
	}
	x := crc.Sum(l[:]) ^ crc.Sum(make([]byte, 8))
	add(b, 12, []byte{byte(x), byte(x >> 8), byte(x >> 16), byte(x >> 24)})
	for half := range 8 {
		from := half*64 + 20
		for i, v := range []byte{byte(n), byte(n >> 8), byte(version), byte(version >> 8), byte(lsn), byte(lsn >> 8)} {
			add(b, from+6*i, blind(v))
		}
	}
	return api.Paper{Lsn: lsn, Body: b[12:]}
}

// text is n bytes from first on, rising, and round again.
func text(n int, first byte) []byte {
	b := make([]byte, n)
	for i := range b {
		b[i] = first + byte(i)
	}
	return b
}

func clone(x api.Paper) api.Paper { return api.Paper{Lsn: x.Lsn, Body: bytes.Clone(x.Body)} }

func same(a, b api.Paper) bool { return a.Lsn == b.Lsn && bytes.Equal(a.Body, b.Body) }

// nothing tells the answer beside an error.
func nothing(x api.Paper) bool { return x.Lsn == 0 && len(x.Body) == 0 }

func tell(x api.Paper) string {
	return fmt.Sprintf("Lsn %d, %d bytes, sum %08x", x.Lsn, len(x.Body), crc.Sum(x.Body))
}

// The slow model: each page as it was put last, and as it was put back last

type model struct {
	now   []api.Paper       // as it was put last
	back  []api.Paper       // as it was put back last, or was there ahead of all
	dirty map[int]uint64    // first Lsns
	pins  map[int]int       // of those that are pinned
	held  []int             // in memory, as the pool told
	lsns  map[uint64]uint64 // of records of the log: the place behind them
}

func (m *model) copy() *model {
	return &model{slices.Clone(m.now), slices.Clone(m.back), maps.Clone(m.dirty), maps.Clone(m.pins), slices.Clone(m.held), maps.Clone(m.lsns)}
}

func (m *model) pinned() int { return len(m.pins) }

// dirts is what Dirty is to be.
func (m *model) dirts() []api.Dirt {
	var l []api.Dirt
	for _, n := range slices.Sorted(maps.Keys(m.dirty)) {
		l = append(l, api.Dirt{Page: uint32(n), Lsn: m.dirty[n]})
	}
	return l
}

func (m *model) putBack(n int) {
	m.back[n] = m.now[n]
	delete(m.dirty, n)
}

// A pool and its model

// layout is where all lies on a device; the sectors that are not named belong to nobody.
type layout struct {
	sectors, log int
	a            api.Area
}

const ring = 16

// layouts is the spare sectors apart from the pages, and just ahead of them, and just behind.
func layouts(pages int) []layout {
	return []layout{
		{18 + 5 + 4*pages + 4, 1, api.Area{Spare: 20, Base: 26, Pages: pages}},
		{18 + 5 + 4*pages, 0, api.Area{Spare: 18, Base: 23, Pages: pages}},
		{18 + 5 + 4*pages, 5 + 4*pages, api.Area{Spare: 4 * pages, Base: 0, Pages: pages}},
		{18 + 5 + 4*pages, 5 + 4*pages, api.Area{Spare: 0, Base: 5, Pages: pages}},
	}
}

// rig is a pool on a device, its log, its model, and what was done to them.
type rig struct {
	t       testing.TB
	d       *disk.Disk
	l       *wal.Log
	p       *pool.Pool
	at      layout
	frames  int
	m       *model
	version int
	past    []string
}

// made is a device where no error may be.
func made(t testing.TB, sectors, most int) *disk.Disk {
	t.Helper()
	d, err := disk.New(sectors, most)
	if err != api.OK || d == nil {
		t.Fatalf("disk.New(%d, %d): error %d", sectors, most, err)
	}
	return d
}

// guard is what the sectors that belong to nobody have.
func guard(i int) []byte { return bytes.Repeat([]byte{byte(i + 1)}, 128) }

func (at layout) nobodys(i int) bool {
	a := at.a
	return (i < at.log || i >= at.log+2+ring) && (i < a.Spare || i >= a.Spare+5) && (i < a.Base || i >= a.Base+4*a.Pages)
}

// rigged is an empty pool on a device of its own, whose pages were never written.
func rigged(t testing.TB, at layout, frames int) *rig {
	t.Helper()
	g := &rig{t: t, d: made(t, at.sectors, at.sectors), at: at, frames: frames}
	for i := range at.sectors {
		if at.nobodys(i) {
			g.gives("Write", g.d.Write(i, guard(i)), api.OK)
		}
	}
	g.gives("Sync", g.d.Sync(), api.OK)
	l, err := wal.Make(g.d, at.log, ring)
	g.gives("wal.Make", err, api.OK)
	g.l = l
	g.m = &model{dirty: map[int]uint64{}, pins: map[int]int{}, lsns: map[uint64]uint64{}}
	for range at.a.Pages {
		g.m.now = append(g.m.now, page.Blank())
		g.m.back = append(g.m.back, page.Blank())
	}
	g.mend()
	g.anew()
	return g
}

// small is a pool of the first layout.
func small(t testing.TB, pages, frames int) *rig {
	t.Helper()
	return rigged(t, layouts(pages)[0], frames)
}

func (g *rig) did(what string, more ...any) { g.past = append(g.past, fmt.Sprintf(what, more...)) }

func (g *rig) fatal(what string, more ...any) {
	g.t.Helper()
	g.t.Fatalf("%s\n.. behind %s", fmt.Sprintf(what, more...), strings.Join(g.past, "; "))
}

// gives ends the test, if a call's error is not what is wanted.
func (g *rig) gives(what string, err, want api.Errno) {
	g.t.Helper()
	if err != want {
		g.fatal("%s: error %d, not %d", what, err, want)
	}
}

// mend mends the area.
func (g *rig) mend() {
	g.t.Helper()
	g.gives("Mend", pool.Mend(g.d, g.at.a), api.OK)
	g.did("Mend")
}

// anew is another pool over the device: each page is there as it was put back last.
func (g *rig) anew() {
	g.t.Helper()
	p, err := pool.New(g.d, g.l, g.at.a, g.frames)
	g.gives("New", err, api.OK)
	g.p = p
	g.m.now = slices.Clone(g.m.back)
	clear(g.m.dirty)
	clear(g.m.pins)
	g.m.held = nil
	g.did("New with %d", g.frames)
	g.agrees()
}

// copy is a rig that goes its own way on a copy of the device, with no pool and no log yet.
func (g *rig) copy() *rig {
	return &rig{t: g.t, d: g.d.Copy(), at: g.at, frames: g.frames, m: g.m.copy(), version: g.version, past: slices.Clone(g.past)}
}

// append puts a record behind all others of the log, which gives up the first
// ones, if there is no room.
func (g *rig) append() uint64 {
	g.t.Helper()
	if g.l.Left() < 27 {
		g.gives("log's Flush", g.l.Flush(), api.OK)
		g.gives("Master", g.l.Master(g.l.End(), 0), api.OK)
	}
	lsn, err := g.l.Append(api.Rec{Kind: api.RecDone, Txn: 1 + uint64(len(g.past))})
	g.gives("Append", err, api.OK)
	g.m.lsns[lsn] = g.l.End()
	g.did("Append: %d", lsn)
	return lsn
}

// lsn draws one of a record that was appended, or appends one.
func (g *rig) lsn(r *rand.Rand) uint64 {
	g.t.Helper()
	if l := slices.Sorted(maps.Keys(g.m.lsns)); len(l) > 0 && r.Intn(3) > 0 {
		return l[len(l)-1-r.Intn(min(len(l), 5))]
	}
	return g.append()
}

// next is a page that was never put yet.
func (g *rig) next(n int, lsn uint64) api.Paper {
	g.version++
	return paper(n, g.version, lsn)
}

// agrees holds all that the pool tells, and the device, against the model. Pages
// that are no longer in memory were put back; nothing else was.
func (g *rig) agrees() {
	g.t.Helper()
	g.given()
	held := g.p.Held()
	if len(held) > g.frames || !slices.IsSorted(held) || len(slices.Compact(slices.Clone(held))) != len(held) {
		g.fatal("held are %v, with %d frames", held, g.frames)
	}
	if got, want := g.p.Dirty(), g.m.dirts(); !slices.Equal(got, want) {
		g.fatal("dirty are %v, not %v", got, want)
	}
	for n := -1; n <= g.at.a.Pages; n++ {
		if got := g.p.Pins(n); got != g.m.pins[n] {
			g.fatal("%d is pinned %d times, not %d", n, got, g.m.pins[n])
		}
	}
	g.onDevice()
}

// given takes it into the model which pages were given up.
func (g *rig) given() {
	g.t.Helper()
	held := g.p.Held()
	for _, n := range g.m.held {
		if slices.Contains(held, n) {
			continue
		}
		if g.m.pins[n] > 0 {
			g.fatal("the page %d, which is pinned, is given up", n)
		}
		if _, dirty := g.m.dirty[n]; dirty {
			g.m.putBack(n)
			g.ruled(n)
		}
	}
	g.m.held = held
}

// ruled tells it, if the page n was put back though the log is not flushed beyond its Lsn.
func (g *rig) ruled(n int) {
	g.t.Helper()
	lsn := g.m.back[n].Lsn
	if behind, ok := g.m.lsns[lsn]; ok && g.l.Flushed() < behind {
		g.fatal("the page %d is put back with the Lsn %d, the log flushed up to %d", n, lsn, g.l.Flushed())
	}
}

// onDevice tells it, if a page on the device is not as it was put back last, if
// something waits, or if a sector that is nobody's was changed.
func (g *rig) onDevice() {
	g.t.Helper()
	for n, want := range g.m.back {
		x, err := page.Read(g.d, g.at.a.Base, n)
		if err != api.OK || !same(x, want) {
			g.fatal("the page %d is on the device as %s, error %d, not as %s", n, tell(x), err, tell(want))
		}
	}
	for i := range g.at.sectors {
		b, err := g.d.Read(i)
		if g.at.nobodys(i) && (err != api.OK || !bytes.Equal(b, guard(i))) {
			g.fatal("the sector %d, which is nobody's, is %x", i, b)
		}
	}
}

// alike tells it, if a call that is refused has changed what the pool tells.
func (g *rig) alike() {
	g.t.Helper()
	if held := g.p.Held(); !slices.Equal(held, g.m.held) {
		g.fatal("behind an error held are %v, not %v", held, g.m.held)
	}
	g.agrees()
}

// busy is whether the page n cannot be brought into memory.
func (g *rig) busy(n int) bool { return !slices.Contains(g.m.held, n) && g.m.pinned() == g.frames }

// wants is the error of Get, Put and Pin, with the power on.
func (g *rig) wants(n int) api.Errno {
	switch {
	case n < 0 || n >= g.at.a.Pages:
		return api.ErrArg
	case g.busy(n):
		return api.ErrBusy
	}
	return api.OK
}

// came tells it, if the pool does not hold the page n now, or gave up another one in vain.
func (g *rig) came(n int) {
	g.t.Helper()
	held := g.p.Held()
	want := len(g.m.held)
	if !slices.Contains(g.m.held, n) {
		want = min(want+1, g.frames)
	}
	if !slices.Contains(held, n) || len(held) != want {
		g.fatal("behind a call of the page %d held are %v, behind %v, with %d frames", n, held, g.m.held, g.frames)
	}
	for _, k := range held {
		if k != n && !slices.Contains(g.m.held, k) {
			g.fatal("behind a call of the page %d held are %v, behind %v", n, held, g.m.held)
		}
	}
	g.agrees()
}

func (g *rig) get(n int) api.Errno {
	g.t.Helper()
	want := g.wants(n)
	x, err := g.p.Get(n)
	g.did("Get %d: %d", n, err)
	g.gives(fmt.Sprintf("Get %d", n), err, want)
	if err != api.OK {
		if !nothing(x) {
			g.fatal("Get %d: %s beside an error", n, tell(x))
		}
		g.alike()
		return err
	}
	if !same(x, g.m.now[n]) {
		g.fatal("Get %d: %s, not %s", n, tell(x), tell(g.m.now[n]))
	}
	g.came(n)
	return err
}

func (g *rig) put(n int, x api.Paper) api.Errno {
	g.t.Helper()
	want := g.wants(n)
	was := clone(x)
	err := g.p.Put(n, x)
	g.did("Put %d, Lsn %d: %d", n, x.Lsn, err)
	g.gives(fmt.Sprintf("Put %d", n), err, want)
	if !same(x, was) {
		g.fatal("Put %d has changed what was handed in", n)
	}
	// It is not kept.
	for i := range x.Body {
		x.Body[i] ^= 255
	}
	if err != api.OK {
		g.alike()
		return err
	}
	g.m.now[n] = was
	if _, dirty := g.m.dirty[n]; !dirty {
		g.m.dirty[n] = was.Lsn
	}
	g.came(n)
	return err
}

// puts puts a page anew, with the Lsn of a record of its own.
func (g *rig) puts(n int) api.Errno {
	g.t.Helper()
	return g.put(n, g.next(n, g.append()))
}

func (g *rig) pin(n int) api.Errno {
	g.t.Helper()
	want := g.wants(n)
	err := g.p.Pin(n)
	g.did("Pin %d: %d", n, err)
	g.gives(fmt.Sprintf("Pin %d", n), err, want)
	if err != api.OK {
		g.alike()
		return err
	}
	g.m.pins[n]++
	g.came(n)
	return err
}

func (g *rig) unpin(n int) api.Errno {
	g.t.Helper()
	want := api.OK
	if g.m.pins[n] == 0 {
		want = api.ErrNone
	}
	err := g.p.Unpin(n)
	g.did("Unpin %d: %d", n, err)
	g.gives(fmt.Sprintf("Unpin %d", n), err, want)
	if g.m.pins[n]--; g.m.pins[n] <= 0 {
		delete(g.m.pins, n)
	}
	g.alike()
	return err
}

func (g *rig) flush(n int) api.Errno {
	g.t.Helper()
	want := api.OK
	if n < 0 || n >= g.at.a.Pages {
		want = api.ErrArg
	}
	flushed := g.l.Flushed()
	err := g.p.Flush(n)
	g.did("Flush %d: %d", n, err)
	g.gives(fmt.Sprintf("Flush %d", n), err, want)
	if _, dirty := g.m.dirty[n]; dirty {
		g.m.putBack(n)
		g.ruled(n)
		if flushed <= g.m.back[n].Lsn {
			flushed = g.l.End()
		}
	}
	if g.l.Flushed() != flushed {
		g.fatal("Flush %d has flushed the log up to %d, not %d", n, g.l.Flushed(), flushed)
	}
	g.alike()
	g.settled()
	return err
}

func (g *rig) flushAll() {
	g.t.Helper()
	err := g.p.FlushAll()
	g.did("FlushAll: %d", err)
	g.gives("FlushAll", err, api.OK)
	for _, x := range g.m.dirts() {
		g.m.putBack(int(x.Page))
		g.ruled(int(x.Page))
	}
	g.alike()
	g.settled()
}

// settled tells it, if something waits on the device.
func (g *rig) settled() {
	g.t.Helper()
	if waits := g.d.Waits(); len(waits) > 0 {
		g.fatal("the sectors %v wait", waits)
	}
}

// Crashes

// crash is one that is mended; then the log is opened, and a pool made anew.
// Just the pages that may are other ones than were put back wholly: they are as
// they were put last.
func (g *rig) crash(may []int, picks []byte) {
	g.t.Helper()
	waits := g.d.Waits()
	g.gives("Crash", g.d.Crash(picks), api.OK)
	g.did("%v waiting, Crash %v", waits, picks)
	g.mend()
	g.found(may)
}

// found is behind a crash, and Mend.
func (g *rig) found(may []int) {
	g.t.Helper()
	for n, was := range g.m.back {
		x, err := page.Read(g.d, g.at.a.Base, n)
		if err != api.OK || !same(x, was) && (!slices.Contains(may, n) || !same(x, g.m.now[n])) {
			g.fatal("the page %d is found as %s, error %d; it was put back as %s, and put as %s", n, tell(x), err, tell(was), tell(g.m.now[n]))
		}
		g.m.back[n] = x
	}
	l, err := wal.Open(g.d, g.at.log, ring)
	g.gives("wal.Open", err, api.OK)
	g.l = l
	for n, x := range g.m.back {
		if behind, ok := g.m.lsns[x.Lsn]; ok && l.End() < behind {
			g.fatal("the page %d has the Lsn %d, the log ends at %d", n, x.Lsn, l.End())
		}
	}
	// What was lost is no record.
	maps.DeleteFunc(g.m.lsns, func(lsn, behind uint64) bool { return behind > l.End() })
	g.anew()
}

// on goes on with a pool: each page is got, put anew, and put back.
func (g *rig) on() {
	g.t.Helper()
	for n := range g.m.back {
		g.get(n)
	}
	for n := range g.m.back {
		g.puts(n)
	}
	g.flushAll()
	g.crash(nil, []byte{1})
}
