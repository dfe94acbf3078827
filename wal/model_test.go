package wal_test

import (
	"bytes"
	"fmt"
	"math/rand"
	"slices"
	"strings"
	"testing"

	"vicinage/api"
	"vicinage/disk"
	"vicinage/logrec"
	"vicinage/wal"
)

// The slow model: a list of records, and up to where they last

// held is a record as it stands in the log, with its place and epoch, and the place behind it.
type held struct {
	x    api.Rec
	next uint64
}

// model is a log by the chapter's words.
type model struct {
	at, count             int
	start, flushed, point uint64
	epoch                 uint32
	recs                  []held // from start on
}

func empty(at, count int) *model {
	return &model{at: at, count: count, start: 52, flushed: 52, epoch: 1}
}

func (m *model) copy() *model {
	c := *m
	c.recs = slices.Clone(m.recs)
	return &c
}

func (m *model) end() uint64 {
	if len(m.recs) == 0 {
		return m.start
	}
	return m.recs[len(m.recs)-1].next
}

func (m *model) left() int {
	return int((m.start/52+2*uint64(m.count))*52) - int(m.end())
}

// place tells whether a record stands there.
func (m *model) place(lsn uint64) bool {
	return slices.ContainsFunc(m.recs, func(h held) bool { return h.x.Lsn == lsn })
}

func (m *model) append(x api.Rec) (uint64, api.Errno) {
	x = clone(x)
	x.Lsn, x.Epoch = m.end(), m.epoch
	size := logrec.Size(x)
	switch {
	case size == 0:
		return 0, api.ErrArg
	case size > m.left():
		return 0, api.ErrFull
	}
	m.recs = append(m.recs, held{x, x.Lsn + uint64(size)})
	return x.Lsn, api.OK
}

func (m *model) flush() { m.flushed = m.end() }

func (m *model) master(start, point uint64) api.Errno {
	if start < m.start || start > m.flushed || !m.place(start) && start != m.end() {
		return api.ErrArg
	}
	if point != 0 && (point < start || point >= m.flushed || !m.place(point)) {
		return api.ErrArg
	}
	m.start, m.point = start, point
	m.recs = slices.DeleteFunc(m.recs, func(h held) bool { return h.x.Lsn < start })
	return api.OK
}

func (m *model) drop(end uint64) api.Errno {
	if !m.place(end) && end != m.end() || m.point != 0 && end <= m.point {
		return api.ErrArg
	}
	if end < m.flushed {
		m.flushed = end
		m.epoch++
	}
	m.recs = slices.DeleteFunc(m.recs, func(h held) bool { return h.x.Lsn >= end })
	return api.OK
}

// upTo is the model with just the records of which all bytes are ahead of a place, all of which last.
func (m *model) upTo(place uint64) *model {
	c := m.copy()
	c.recs = slices.DeleteFunc(c.recs, func(h held) bool { return h.next > place })
	c.flush()
	return c
}

// kept is the model as a crash leaves it where nothing of the ring waits.
func (m *model) kept() *model { return m.upTo(m.flushed) }

// torn is the model as a crash leaves it where the power has gone at a Flush:
// the sectors that wait take picks, half by half.
func (m *model) torn(waits []int, picks []byte) *model {
	lasts := func(p uint64) bool {
		h := int(p / 52 % uint64(2*m.count))
		i := slices.Index(waits, m.at+2+h/2)
		if i < 0 || i >= len(picks) {
			return false
		}
		pick := picks[i] % 4
		return pick == 1 || pick == 2 && h%2 == 0 || pick == 3 && h%2 == 1
	}
	p := m.flushed
	for p < m.end() && lasts(p) {
		p++
	}
	return m.upTo(p)
}

// Records

func done(txn uint64) api.Rec { return api.Rec{Kind: api.RecDone, Txn: txn} }

func commit(txn, stamp uint64) api.Rec { return api.Rec{Kind: api.RecCommit, Txn: txn, Stamp: stamp} }

func end(txn uint64, undo []byte) api.Rec { return api.Rec{Kind: api.RecEnd, Txn: txn, Undo: undo} }

func write(page uint32, old, now []byte) api.Rec {
	return api.Rec{Kind: api.RecWrite, Page: page, Old: old, New: now}
}

func point(open []api.Chain, dirty []api.Dirt) api.Rec {
	return api.Rec{Kind: api.RecPoint, Open: open, Dirty: dirty}
}

// text is n bytes from first on, rising, and round again.
func text(n int, first byte) []byte {
	b := make([]byte, n)
	for i := range b {
		b[i] = first + byte(i)
	}
	return b
}

// five is a record of each kind: none has the form of another.
func five() []api.Rec {
	return []api.Rec{
		write(7, text(30, 1), text(30, 100)),
		end(0x0102030405060708, text(20, 50)),
		{Kind: api.RecEnd, Txn: 9, Prev: 52, Next: 79, Clr: true},
		commit(1<<63+5, 1<<40),
		done(8),
		point([]api.Chain{{Txn: 1, First: 52, Last: 79}, {Txn: 2, First: 90, Last: 90}}, []api.Dirt{{Page: 3, Lsn: 52}}),
	}
}

// canBe tells whether sized knows a record of so many bytes.
func canBe(size int) bool {
	return size == 27 || size == 35 || size >= 45 && size <= 109 || size > 109 && size%2 == 1 && size != 283 && size <= 1029
}

// sized is a record whose form has just so many bytes, told apart by its tag.
func sized(t testing.TB, size int, tag uint64) api.Rec {
	t.Helper()
	x := api.Rec{}
	switch {
	case size == 27:
		x = done(tag)
	case size == 35:
		x = commit(tag, tag+1)
	case size >= 45 && size <= 109:
		x = end(tag, text(size-45, byte(tag)))
	case size > 109 && size%2 == 1 && size <= 281:
		x = write(uint32(tag), text((size-27)/2, byte(tag)), text((size-27)/2, byte(tag)+77))
	case size > 281 && size%2 == 1:
		x = write(uint32(tag), text((size-29)/2, byte(tag)), text((size-29)/2, byte(tag)+77))
	}
	if logrec.Size(x) != size {
		t.Fatalf("no record of %d bytes: %d", size, logrec.Size(x))
	}
	return x
}

// drawn is a record of any kind, mostly a short one.
func drawn(r *rand.Rand) api.Rec {
	some := func(n int) []byte {
		b := make([]byte, n)
		r.Read(b)
		return b
	}
	switch r.Intn(7) {
	case 0:
		n := 1 + r.Intn(500)>>r.Intn(9)
		return api.Rec{Kind: api.RecWrite, Page: r.Uint32(), Off: uint16(r.Intn(501 - n)), Old: some(n), New: some(n)}
	case 1:
		return api.Rec{Kind: api.RecEnd, Txn: r.Uint64(), Prev: r.Uint64(), Undo: some(r.Intn(65))}
	case 2:
		return api.Rec{Kind: api.RecEnd, Txn: r.Uint64(), Prev: r.Uint64(), Next: r.Uint64(), Clr: true}
	case 3:
		return commit(1+r.Uint64()>>1, r.Uint64())
	case 4:
		x := point(make([]api.Chain, r.Intn(17)), make([]api.Dirt, r.Intn(65)>>r.Intn(5)))
		for i := range x.Open {
			x.Open[i] = api.Chain{Txn: r.Uint64(), First: r.Uint64(), Last: r.Uint64()}
		}
		for i := range x.Dirty {
			x.Dirty[i] = api.Dirt{Page: r.Uint32(), Lsn: r.Uint64()}
		}
		return x
	}
	return done(1 + r.Uint64()>>1)
}

// clone is a record that shares no memory with x.
func clone(x api.Rec) api.Rec {
	x.Old, x.New, x.Undo = bytes.Clone(x.Old), bytes.Clone(x.New), bytes.Clone(x.Undo)
	x.Open, x.Dirty = slices.Clone(x.Open), slices.Clone(x.Dirty)
	return x
}

func tell(x api.Rec) string {
	return fmt.Sprintf("kind %d, lsn %d, epoch %d, txn %d, page %d, %d bytes", x.Kind, x.Lsn, x.Epoch, x.Txn, x.Page, logrec.Size(x))
}

// A log and its model

// rig is a log on a device, its model, and what was done to them.
type rig struct {
	t    testing.TB
	d    *disk.Disk
	l    *wal.Log
	m    *model
	past []string
}

// made is a device where no error may be.
func made(t testing.TB, sectors, most int) *disk.Disk {
	t.Helper()
	d, err := disk.New(sectors, most)
	if err != api.OK || d == nil {
		t.Fatalf("disk.New(%d, %d): error %d", sectors, most, err)
	}
	return d
}

// rigged is an empty log on a device of its own, and its model; other sectors
// are ahead of it, and behind it.
func rigged(t testing.TB, count int) *rig {
	t.Helper()
	const at = 3
	g := &rig{t: t, d: made(t, at+2+count+2, at+2+count+2), m: empty(at, count)}
	l, err := wal.Make(g.d, at, count)
	if err != api.OK || l == nil {
		t.Fatalf("Make: error %d", err)
	}
	g.l = l
	g.did("Make of %d", count)
	g.check()
	return g
}

func (g *rig) did(what string, more ...any) { g.past = append(g.past, fmt.Sprintf(what, more...)) }

func (g *rig) fatal(what string, more ...any) {
	g.t.Helper()
	g.t.Fatalf("%s\n.. behind %s", fmt.Sprintf(what, more...), strings.Join(g.past, "; "))
}

// gives ends the test, if a call's error is not what is wanted.
func (g *rig) gives(what string, err, want api.Errno) {
	g.t.Helper()
	if err != want {
		g.fatal("%s: error %d, not %d", what, err, want)
	}
}

// append does it to both.
func (g *rig) append(x api.Rec) api.Errno {
	g.t.Helper()
	asked := clone(x)
	lsn, err := g.l.Append(x)
	want, wantErr := g.m.append(x)
	if err != wantErr || lsn != want {
		g.fatal("Append of %s: %d, error %d, not %d, %d", tell(x), lsn, err, want, wantErr)
	}
	if !logrec.Same(x, asked) {
		g.fatal("Append of %s has made it %s", tell(asked), tell(x))
	}
	g.did("Append %d bytes at %d: %d", logrec.Size(x), lsn, err)
	return err
}

// adds appends records for which there is room.
func (g *rig) adds(l ...api.Rec) {
	g.t.Helper()
	for _, x := range l {
		if err := g.append(x); err != api.OK {
			g.fatal("Append of %s: error %d", tell(x), err)
		}
	}
}

func (g *rig) flush() {
	g.t.Helper()
	g.gives("Flush", g.l.Flush(), api.OK)
	g.m.flush()
	g.did("Flush")
	g.heads()
	if waits := g.d.Waits(); len(waits) > 0 {
		g.fatal("behind Flush the sectors %v wait", waits)
	}
}

func (g *rig) master(start, point uint64) api.Errno {
	g.t.Helper()
	err := g.l.Master(start, point)
	g.gives(fmt.Sprintf("Master(%d, %d)", start, point), err, g.m.master(start, point))
	g.did("Master(%d, %d): %d", start, point, err)
	g.heads()
	return err
}

func (g *rig) drop(end uint64) api.Errno {
	g.t.Helper()
	err := g.l.Drop(end)
	g.gives(fmt.Sprintf("Drop(%d)", end), err, g.m.drop(end))
	g.did("Drop(%d): %d", end, err)
	g.heads()
	return err
}

// heads holds the numbers that a log tells against the model's.
func (g *rig) heads() {
	g.t.Helper()
	l, m := g.l, g.m
	if l.Start() != m.start || l.End() != m.end() || l.Flushed() != m.flushed || l.Point() != m.point || l.Epoch() != m.epoch || l.Left() != m.left() {
		g.fatal("Start %d, End %d, Flushed %d, Point %d, Epoch %d, Left %d, not %d, %d, %d, %d, %d, %d",
			l.Start(), l.End(), l.Flushed(), l.Point(), l.Epoch(), l.Left(), m.start, m.end(), m.flushed, m.point, m.epoch, m.left())
	}
}

// reads tells it, if there is not just this record at its place.
func (g *rig) reads(h held) {
	g.t.Helper()
	x, next, err := g.l.Read(h.x.Lsn)
	if err != api.OK || next != h.next || !logrec.Same(x, h.x) {
		g.fatal("Read of %d: error %d, %s, then %d, not %s, then %d", h.x.Lsn, err, tell(x), next, tell(h.x), h.next)
	}
}

// lacks tells it, if there is a record at a place.
func (g *rig) lacks(lsn uint64) {
	g.t.Helper()
	x, next, err := g.l.Read(lsn)
	if err != api.ErrNone || next != 0 || !logrec.Same(x, api.Rec{}) {
		g.fatal("Read of %d: error %d, %s, then %d, not ErrNone", lsn, err, tell(x), next)
	}
}

// check holds all that a log tells against the model: each record, and that
// there is none anywhere else.
func (g *rig) check() {
	g.t.Helper()
	g.heads()
	for _, h := range g.m.recs {
		g.reads(h)
		g.lacks(h.x.Lsn + 1)
		g.lacks(h.next - 1)
	}
	for _, p := range []uint64{0, 1, 51, g.m.start - 1, g.m.end(), g.m.end() + 1, 1<<64 - 1} {
		g.lacks(p)
	}
}

// everywhere looks at each place from far below Start to far beyond End.
func (g *rig) everywhere() {
	g.t.Helper()
	g.check()
	for p := max(g.m.start, 300) - 300; p < g.m.end()+2000; p++ {
		if !g.m.place(p) {
			g.lacks(p)
		}
	}
}

// found opens the log anew: it must be as one of these models is, with an
// epoch that is more than all there were, at most by so many.
func (g *rig) found(most uint32, may ...*model) {
	g.t.Helper()
	l, err := wal.Open(g.d, g.m.at, g.m.count)
	if err != api.OK || l == nil {
		g.fatal("Open: error %d", err)
	}
	g.l = l
	was := g.m.epoch
	if l.Epoch() <= was || l.Epoch() > was+most {
		g.fatal("behind Open the epoch is %d, behind %d", l.Epoch(), was)
	}
	if waits := g.d.Waits(); len(waits) > 0 {
		g.fatal("behind Open the sectors %v wait", waits)
	}
	var tells []string
	for _, m := range may {
		if l.Start() == m.start && l.Point() == m.point && l.End() == m.end() {
			g.m = m.copy()
			g.m.epoch = l.Epoch()
			g.did("Open: End %d, epoch %d", l.End(), l.Epoch())
			g.check()
			return
		}
		tells = append(tells, fmt.Sprintf("Start %d, Point %d, End %d", m.start, m.point, m.end()))
	}
	g.fatal("found: Start %d, Point %d, End %d, not one of %q", l.Start(), l.Point(), l.End(), tells)
}

// crash is one where nothing is under way; then the log is opened anew.
func (g *rig) crash(picks ...byte) {
	g.t.Helper()
	g.gives("Crash", g.d.Crash(picks), api.OK)
	g.did("Crash %v", picks)
	g.found(1, g.m.kept())
}

// fails tells it, if a log that the device has told an error does not tell
// ErrDown, whatever it is asked, and the numbers that it had.
func (g *rig) fails() {
	g.t.Helper()
	g.heads()
	for range 2 {
		for _, x := range []api.Rec{done(7), done(0), {}} {
			if lsn, err := g.l.Append(x); err != api.ErrDown || lsn != 0 {
				g.fatal("Append of a log that is down: %d, error %d", lsn, err)
			}
		}
		g.gives("Flush of a log that is down", g.l.Flush(), api.ErrDown)
		for _, p := range []uint64{0, g.m.start, g.m.flushed, g.m.end(), 1<<64 - 1} {
			if x, next, err := g.l.Read(p); err != api.ErrDown || next != 0 || !logrec.Same(x, api.Rec{}) {
				g.fatal("Read(%d) of a log that is down: %s, then %d, error %d", p, tell(x), next, err)
			}
			g.gives("Master of a log that is down", g.l.Master(p, 0), api.ErrDown)
			g.gives("Master of a log that is down", g.l.Master(g.m.start, p), api.ErrDown)
			g.gives("Drop of a log that is down", g.l.Drop(p), api.ErrDown)
		}
	}
	g.heads()
}
