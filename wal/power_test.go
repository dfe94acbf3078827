package wal_test

import (
	"bytes"
	"fmt"
	"math/rand"
	"slices"
	"testing"

	"vicinage/api"
	"vicinage/crc"
	"vicinage/disk"
	"vicinage/logrec"
	"vicinage/wal"
)

// patterns is picks for n sectors that wait: none of them is kept, all, each
// half, each by turns, each one of them alone, and all but one.
func patterns(n int) [][]byte {
	l := [][]byte{nil}
	for _, turns := range [][]byte{{1}, {2}, {3}, {0, 1}, {1, 0}, {2, 3}, {3, 2}, {1, 2}, {3, 1}, {0, 1, 2, 3}, {3, 0, 2, 1}} {
		l = append(l, slices.Repeat(turns, n)[:n])
	}
	for i := range n {
		for pick := range byte(4) {
			a, b := make([]byte, n), bytes.Repeat([]byte{1}, n)
			a[i], b[i] = pick, pick
			l = append(l, a, b)
		}
	}
	return l
}

// all is each row of n picks there is.
func all(n int) [][]byte {
	l := [][]byte{nil}
	for range n {
		var longer [][]byte
		for _, row := range l {
			for pick := range byte(4) {
				longer = append(longer, append(slices.Clone(row), pick))
			}
		}
		l = longer
	}
	return l
}

// deed is a call at which the power may go.
type deed struct {
	name string
	call func(g *rig) api.Errno
	does func(m *model) api.Errno // the same to a model; nil: it makes last what waits in the ring
}

func flushing() deed {
	return deed{name: "Flush", call: func(g *rig) api.Errno { return g.l.Flush() }}
}

func mastering(start, point uint64) deed {
	return deed{fmt.Sprintf("Master(%d, %d)", start, point),
		func(g *rig) api.Errno { return g.l.Master(start, point) },
		func(m *model) api.Errno { return m.master(start, point) },
	}
}

func dropping(end uint64) deed {
	return deed{fmt.Sprintf("Drop(%d)", end),
		func(g *rig) api.Errno { return g.l.Drop(end) },
		func(m *model) api.Errno { return m.drop(end) },
	}
}

func opening() deed {
	return deed{"Open",
		func(g *rig) api.Errno {
			_, err := wal.Open(g.d, g.m.at, g.m.count)
			return err
		},
		func(m *model) api.Errno { return api.OK },
	}
}

// may is what may be found where the power has gone at the deed: of a Flush
// just what lasts by the picks; of another one what was, or what was to be.
func (what deed) may(m *model, waits []int, picks []byte) []*model {
	if what.does == nil {
		return []*model{m.torn(waits, picks)}
	}
	now := m.kept()
	what.does(now)
	return []*model{m.kept(), now}
}

// scenes is logs ahead of such a call: each one is made anew where it is asked.
func scenes() []func(t testing.TB) *rig {
	return []func(t testing.TB) *rig{
		three,
		func(t testing.TB) *rig { // nothing lasts yet
			g := rigged(t, 16)
			g.adds(five()...)
			return g
		},
		func(t testing.TB) *rig { // a point, and a half that was written often
			g := rigged(t, 16)
			for range 9 {
				g.adds(done(5))
				g.flush()
			}
			g.master(g.m.recs[1].x.Lsn, g.m.recs[2].x.Lsn)
			g.adds(done(6), sized(t, 281, 7), done(8))
			return g
		},
		func(t testing.TB) *rig { // lost ones of earlier epochs beyond End
			g := rigged(t, 16)
			g.adds(five()...)
			g.flush()
			for i := range 3 {
				g.adds(sized(t, 281, 3), sized(t, 109, 4), done(5))
				g.d.Arm(4)
				g.gives("Flush", g.l.Flush(), api.ErrDown)
				waits, picks := g.d.Waits(), []byte{byte(2 - i), 1, 1, 1}
				g.d.Crash(picks)
				g.found(1, g.m.torn(waits, picks))
			}
			g.adds(sized(t, 281, 6), done(7))
			return g
		},
		func(t testing.TB) *rig { // dropped ones beyond End
			g := rigged(t, 16)
			g.adds(five()...)
			g.adds(five()...)
			g.flush()
			g.drop(g.m.recs[6].x.Lsn)
			g.adds(sized(t, 107, 6), done(7))
			g.flush()
			g.drop(g.m.recs[7].x.Lsn)
			g.adds(sized(t, 55, 6), sized(t, 207, 7))
			return g
		},
		func(t testing.TB) *rig { // gone round, over the ring's end, the ring full
			g := rigged(t, 16)
			for g.m.end() < 3*1664+1100 {
				g.adds(sized(t, 77, g.m.end()))
				g.flush()
				g.master(g.m.recs[len(g.m.recs)-1].x.Lsn, 0)
			}
			for range 9 {
				g.adds(sized(t, 61, g.m.end()))
			}
			g.flush()
			fill(g, 0)
			return g
		},
	}
}

// cut does a deed with the power going at each operation of it, and each
// pattern of picks; more is done with what is found.
func cut(t *testing.T, scene func(t testing.TB) *rig, what deed, more func(g *rig)) {
	t.Helper()
	for n := 1; ; n++ {
		probe := scene(t)
		probe.d.Arm(n)
		if probe.gone(what.call(probe)) {
			if n < 2 {
				t.Fatalf("%s asks the device for nothing", what.name)
			}
			return
		}
		for _, picks := range patterns(len(probe.d.Waits())) {
			g := scene(t)
			g.d.Arm(n)
			g.gives(what.name, what.call(g), api.ErrDown)
			if what.name != "Open" {
				g.fails()
			}
			waits := g.d.Waits()
			g.d.Crash(picks)
			g.did("%s, the power gone at the operation %d, %v waiting, Crash %v", what.name, n, waits, picks)
			g.found(2, what.may(g.m, waits, picks)...)
			more(g)
		}
	}
}

// gone tells whether a call was done, the power still on.
func (g *rig) gone(err api.Errno) bool {
	g.t.Helper()
	if err != api.OK && err != api.ErrDown {
		g.fatal("error %d where the power goes", err)
	}
	return err == api.OK
}

// further appends records as long as others that may be lost, and shorter and
// longer ones, in rows, with a crash behind each of them that keeps what lasts.
func further(g *rig) {
	twin, was := g.d.Copy(), g.m.copy()
	for _, sizes := range [][]int{{27}, {52}, {35, 45}, {281}, {61, 61, 61}, {77}, {109, 27}, {107, 207}} {
		h := &rig{t: g.t, d: twin.Copy(), m: was.copy(), past: slices.Clone(g.past)}
		h.crash(1)
		for i, size := range sizes {
			if h.m.left() < size {
				break
			}
			h.adds(sized(g.t, size, uint64(1000+i)))
		}
		h.crash(1)
		for i, size := range sizes {
			if h.m.left() < size {
				break
			}
			h.adds(sized(g.t, size, uint64(2000+i)))
			h.flush()
			f := &rig{t: g.t, d: h.d.Copy(), m: h.m.copy(), past: slices.Clone(h.past)}
			f.crash(1)
		}
		h.crash(1)
	}
}

// P10.2, P10.6

func TestPowerGoesAtFlush(t *testing.T) {
	for _, scene := range scenes() {
		cut(t, scene, flushing(), further)
	}
}

// P10.3, P10.6

func TestPowerGoesAtMaster(t *testing.T) {
	for _, scene := range scenes() {
		m := scene(t).m
		var places []uint64 // of records that last
		for _, h := range m.recs {
			if h.x.Lsn < m.flushed {
				places = append(places, h.x.Lsn)
			}
		}
		var all []deed
		for i, start := range places {
			all = append(all, mastering(start, 0), mastering(start, start), mastering(start, places[len(places)-1]))
			if i > 3 {
				break
			}
		}
		for _, what := range append(all, mastering(m.flushed, 0)) {
			cut(t, scene, what, func(g *rig) {
				if g.m.left() >= 60 {
					g.adds(sized(t, 60, 9))
				}
				g.flush()
				g.crash(1)
			})
		}
	}
}

// P10.4, P10.6

func TestPowerGoesAtDrop(t *testing.T) {
	for _, scene := range scenes() {
		m := scene(t).m
		for _, h := range m.recs {
			if h.x.Lsn < m.flushed && h.x.Lsn > m.point {
				cut(t, scene, dropping(h.x.Lsn), further)
			}
		}
	}
}

// P10.1, P10.6

// The power goes at each operation of Open: nothing is lost, and the next Open
// finds what the first one would have found.
func TestPowerGoesAtOpen(t *testing.T) {
	for _, scene := range scenes() {
		cut(t, scene, opening(), further)
	}
}

// Opens one behind the other, each of them cut off, some often: the last one finds it all.
func TestPowerGoesAtOpensInARow(t *testing.T) {
	r := rand.New(rand.NewSource(7))
	for _, scene := range scenes() {
		for range 60 {
			g := scene(t)
			if r.Intn(2) == 0 {
				// Behind a Flush that was cut off, too.
				g.d.Arm(1 + r.Intn(4))
				done := g.gone(g.l.Flush())
				if done {
					g.m.flush()
				}
				waits, picks := g.d.Waits(), patterns(len(g.d.Waits()))
				p := picks[r.Intn(len(picks))]
				m := g.m.kept()
				if !done {
					m = g.m.torn(waits, p)
				}
				g.d.Crash(p)
				g.did("a Flush cut off, %v waiting, Crash %v", waits, p)
				g.m = m
			} else {
				g.d.Crash(nil)
				g.m = g.m.kept()
			}
			tries := 1 + r.Intn(8)
			for range tries {
				n := 1 + r.Intn(4)
				g.d.Arm(n)
				l, err := wal.Open(g.d, g.m.at, g.m.count)
				if g.gone(err) {
					g.l = l
					if g.m.epoch >= l.Epoch() {
						g.fatal("the epoch %d behind %d", l.Epoch(), g.m.epoch)
					}
					g.m.epoch = l.Epoch()
				} else if l != nil {
					g.fatal("a log beside an error")
				}
				picks := make([]byte, r.Intn(4))
				r.Read(picks)
				g.d.Crash(picks)
				g.did("Open armed with %d: error %d, Crash %v", n, err, picks)
			}
			g.found(uint32(tries+1), g.m)
			g.everywhere()
			further(g)
		}
	}
}

// The power goes at each operation of Make: it is refused; whatever is left,
// Open ends, and Make makes a log of it the next time.
func TestPowerGoesAtMake(t *testing.T) {
	for _, old := range grown(t) {
		for n := 1; ; n++ {
			d := old.d.Copy()
			d.Arm(n)
			l, err := wal.Make(d, old.m.at, old.m.count)
			if old.gone(err) {
				if n < 4 {
					t.Fatalf("Make is done at %d operations", n-1)
				}
				break
			}
			if l != nil {
				t.Fatal("a log beside an error")
			}
			for _, picks := range patterns(min(4, len(d.Waits()))) {
				g := &rig{t: t, d: d.Copy(), m: empty(old.m.at, old.m.count)}
				g.d.Crash(picks)
				if l, err := wal.Open(g.d, g.m.at, g.m.count); (err != api.OK || l == nil) && (err != api.ErrDamaged || l != nil) {
					t.Fatalf("Open behind a Make that was cut off: error %d", err)
				}
				g.l, err = wal.Make(g.d, g.m.at, g.m.count)
				g.gives("Make", err, api.OK)
				g.check()
				g.crash(picks...)
				g.adds(done(5), done(6))
				g.flush()
				g.crash(picks...)
			}
		}
	}
	d := made(t, 30, 30)
	for n := 1; n <= 3; n++ {
		for _, picks := range patterns(2) {
			g := &rig{t: t, d: d.Copy(), m: empty(0, 16)}
			g.d.Arm(n)
			if l, err := wal.Make(g.d, 0, 16); l != nil || err != api.ErrDown {
				t.Fatalf("Make with the power going at the operation %d: error %d", n, err)
			}
			g.d.Crash(picks)
			var err api.Errno
			g.l, err = wal.Make(g.d, 0, 16)
			g.gives("Make", err, api.OK)
			g.crash(picks...)
			g.everywhere()
		}
	}
}

// P10.6: lost records are never found again

// All picks there are, for a Flush that is cut off, for another one in the next
// epoch, behind which records stand that are as long, shorter, longer, and for
// a third one. What is found is told by the halves that last, to the byte.
func TestEachHalfOfTwoFlushes(t *testing.T) {
	for _, ahead := range []int{0, 27, 45, 77, 52, 104} {
		for _, sizes := range [][][]int{{{77, 61}, {77, 61}}, {{157}, {77, 79}}, {{27, 27, 109}, {163}}, {{52, 52, 52}, {52, 52, 52}}, {{109, 27}, {27}}} {
			was := rigged(t, 16)
			if ahead > 0 {
				was.adds(sized(t, ahead, 1))
				was.flush()
			}
			for _, g := range was.flushes(sizes[0], 100) {
				for _, h := range g.flushes(sizes[1], 200) {
					if len(h.m.recs) == 0 {
						continue
					}
					h.adds(sized(t, 45, 300))
					h.flush()
					h.crash()
				}
			}
		}
	}
}

// flushes is what becomes of a log when records are appended, and the power
// goes at the last operation of their Flush, by all picks there are.
func (g *rig) flushes(sizes []int, tag uint64) []*rig {
	g.t.Helper()
	past := len(g.past)
	var l []*rig
	seed := g.d.Copy()
	probe := g.opened(seed)
	for i, size := range sizes {
		probe.adds(sized(g.t, size, tag+uint64(i)))
	}
	first, last := probe.m.flushed/104, (probe.m.end()-1)/104
	for _, picks := range all(int(last - first + 1)) {
		h := g.opened(seed)
		for i, size := range sizes {
			h.adds(sized(g.t, size, tag+uint64(i)))
		}
		h.d.Arm(int(last-first) + 2)
		h.gives("Flush", h.l.Flush(), api.ErrDown)
		waits := h.d.Waits()
		if len(waits) != len(picks) {
			g.fatal("%v wait, not %d sectors", waits, len(picks))
		}
		h.d.Crash(picks)
		h.did("a Flush cut off, %v waiting, Crash %v", waits, picks)
		h.found(1, h.m.torn(waits, picks))
		l = append(l, h)
	}
	g.past = g.past[:past]
	return l
}

// opened is a log opened on a copy of a device that is as g's model.
func (g *rig) opened(d *disk.Disk) *rig {
	g.t.Helper()
	h := &rig{t: g.t, d: d.Copy(), m: g.m.copy(), past: slices.Clone(g.past)}
	h.crash()
	return h
}

// blind is bytes that change no sum where they are added (bit by bit) to others.
func blind() []byte {
	x := crc.Sum([]byte{1}) ^ crc.Sum([]byte{0})
	return []byte{1, byte(x), byte(x >> 8), byte(x >> 16), byte(x >> 24)}
}

func TestBlindChangesNoSum(t *testing.T) {
	for n := range 50 {
		a := text(100, byte(n))
		b := bytes.Clone(a)
		for i, x := range blind() {
			b[n+i] ^= x
		}
		if crc.Sum(a) != crc.Sum(b) {
			t.Errorf("at %d the sum is another one", n)
		}
	}
}

// A sum that happens to be right: the halves of two records of one length, the
// first one's lost, have the right sum together, wherever they are parted; and
// neither of both is found, but where all of it lasts.
func TestSumsThatHappenToBeRight(t *testing.T) {
	for _, ahead := range []int{0, 27, 45, 52, 61} {
		for from := 0; from < 90; from += 6 {
			lost := write(1, text(45, 1), text(95, 100))
			lost.Old = text(95, 1)
			other := clone(lost)
			other.Page = 2
			for i, x := range blind() {
				other.New[from+i] ^= x
			}
			pairs := func(first, second api.Rec) {
				was := rigged(t, 16)
				if ahead > 0 {
					was.adds(sized(t, ahead, 1))
					was.flush()
				}
				for _, g := range was.lost(first, done(5)) {
					for _, h := range g.lost(second, commit(5, 6)) {
						h.crash()
					}
				}
			}
			pairs(lost, other)
			pairs(other, lost)
		}
	}
}

// lost is as flushes is, of these records, but with some picks alone.
func (g *rig) lost(l ...api.Rec) []*rig {
	g.t.Helper()
	var out []*rig
	seed := g.d.Copy()
	probe := g.opened(seed)
	probe.adds(l...)
	n := int((probe.m.end()-1)/104-probe.m.flushed/104) + 1
	for _, turns := range [][]byte{{1, 0}, {0, 1}, {2, 1}, {3, 1}, {1, 2}, {1, 3}, {1, 1, 2}, {1, 1, 3}, {1, 1, 0, 1}, {2, 0, 1}, {1}} {
		picks := slices.Repeat(turns, n)[:n]
		h := g.opened(seed)
		h.adds(l...)
		h.d.Arm(n + 1)
		h.gives("Flush", h.l.Flush(), api.ErrDown)
		waits := h.d.Waits()
		h.d.Crash(picks)
		h.did("a Flush cut off, %v waiting, Crash %v", waits, picks)
		h.found(1, h.m.torn(waits, picks))
		out = append(out, h)
	}
	return out
}

// chain is forms of records, one behind the other, that would stand at a place, in some epoch.
func chain(place uint64, epoch uint32, size int) []byte {
	var b []byte
	for len(b)+27 <= size {
		x := done(666)
		x.Lsn, x.Epoch = place+uint64(len(b)), epoch
		form, _ := logrec.Bytes(x)
		b = append(b, form...)
	}
	return append(b, make([]byte, size-len(b))...)
}

// disguised is a record that stands at a place, whose bytes from the place
// inner on are themselves forms of records, as they would stand behind other.
func disguised(place, inner, other uint64, epoch uint32) api.Rec {
	x := write(3, make([]byte, 400), make([]byte, 400))
	from := int(inner-place) - 27
	copy(x.Old[from:], chain(other, epoch, 400-from))
	return x
}

// Bytes of a record that was lost, or dropped, that are themselves the forms of
// records with the right place, of any epoch, stand just behind another record
// that comes in its place: they are no records.
func TestFormsWithinARecord(t *testing.T) {
	for epoch := uint32(0); epoch < 6; epoch++ {
		for _, size := range []int{27, 35, 45, 51, 52, 53, 79, 104, 106} {
			place := uint64(52)
			x := disguised(place, place+uint64(size), place+uint64(size), epoch)
			// Lost.
			was := rigged(t, 16)
			for _, g := range was.lost(x) {
				if g.m.end() != 52 {
					g.drop(52)
				}
				for range 2 {
					h := g.opened(g.d)
					h.adds(sized(t, size, 5))
					h.flush()
					h.crash()
					h.adds(sized(t, 45, 6))
					h.flush()
					h.crash()
					g.crash()
				}
			}
			// Dropped.
			for crashes := range 3 {
				g := rigged(t, 16)
				g.adds(x)
				g.flush()
				for range crashes {
					g.crash()
				}
				g.drop(52)
				g.adds(sized(t, size, 5))
				g.flush()
				g.crash()
			}
		}
	}
}

// A record that begins with the last byte of a half, and whose first byte is 0:
// as long as the half is as it was ahead of it, the record is not there.
func TestNoughtAtAHalfsEnd(t *testing.T) {
	for _, c := range []struct {
		ahead int
		picks []byte // for both sectors: all is kept but that half
	}{{51, []byte{0, 1}}, {103, []byte{3, 1}}} {
		g := rigged(t, 16)
		g.adds(sized(t, c.ahead, 1))
		g.flush()
		x := done(1)
		x.Lsn, x.Epoch = g.m.end(), 1
		for form := []byte{1}; form[0] != 0; form, _ = logrec.Bytes(x) {
			x.Txn++
		}
		g.adds(x, commit(2, 3))
		g.d.Arm(3)
		g.gives("Flush", g.l.Flush(), api.ErrDown)
		waits := g.d.Waits()
		g.d.Crash(c.picks)
		g.did("a Flush cut off, %v waiting, Crash %v", waits, c.picks)
		g.found(1, g.m.torn(waits, c.picks))
		if len(waits) != 2 || len(g.m.recs) != 1 {
			t.Errorf("%v waiting, %d records, not 1", waits, len(g.m.recs))
		}
	}
}

// Bytes of an earlier round of the ring that are forms of records with places
// of this round, and of any epoch: they are no records.
func TestFormsOfAnEarlierRound(t *testing.T) {
	for epoch := uint32(0); epoch < 4; epoch++ {
		for rounds := uint64(1); rounds < 3; rounds++ {
			for _, size := range []int{52, 104, 45} {
				g := rigged(t, 16)
				const ring = 1664
				// A record of the first round, whose bytes from a half's first one on are forms.
				place, inner := uint64(52), uint64(52+104)
				g.adds(disguised(place, inner, inner+rounds*ring, epoch))
				g.flush()
				for g.m.end() < inner+rounds*ring-uint64(size) {
					rest := int(inner + rounds*ring - uint64(size) - g.m.end())
					switch {
					case rest >= 1200:
						// The halves of the disguised one, too, but not those of the forms.
						rest = 109
					case rest > 200:
						rest = 109
					case rest > 109:
						rest /= 2
					}
					if g.m.left() < rest {
						g.master(g.m.end(), 0)
					}
					g.adds(sized(t, rest, 7))
					g.flush()
				}
				g.master(g.m.end(), 0)
				g.adds(sized(t, size, 8))
				g.flush()
				if g.m.end() != inner+rounds*ring {
					t.Fatalf("End %d, not %d", g.m.end(), inner+rounds*ring)
				}
				h := g.opened(g.d)
				h.everywhere()
				h.crash()
			}
		}
	}
}

// Records of one length all along: in each round, and each epoch, each of them
// has its place where others had theirs.
func TestEarlierRoundsAndEpochs(t *testing.T) {
	r := rand.New(rand.NewSource(8))
	for _, size := range []int{27, 52, 104, 61} {
		g := rigged(t, 16)
		for g.m.end() < 12*1664 {
			n := 1 + r.Intn(9)
			for range n {
				if g.m.left() >= size {
					g.adds(sized(t, size, g.m.end()))
				}
			}
			if r.Intn(2) == 0 && g.m.end() > g.m.flushed {
				// Cut off, at any operation, with any picks.
				g.d.Arm(1 + r.Intn(int(g.m.end()-g.m.flushed)/104+2))
				finished := g.gone(g.l.Flush())
				waits, picks := g.d.Waits(), make([]byte, 20)
				r.Read(picks)
				m := g.m.torn(waits, picks)
				if finished {
					g.m.flush()
					m = g.m.kept()
				}
				g.d.Crash(picks)
				g.did("a Flush armed, %v waiting, Crash %v", waits, picks)
				g.found(1, m)
			} else {
				g.flush()
			}
			switch k := len(g.m.recs); {
			case k > 0 && r.Intn(3) == 0:
				g.drop(g.m.recs[k-1-r.Intn(min(k, 3))].x.Lsn)
			case k > 0 && r.Intn(2) == 0:
				if h := g.m.recs[r.Intn(k)]; h.x.Lsn < g.m.flushed {
					g.master(h.x.Lsn, 0)
				}
			}
			if r.Intn(3) == 0 {
				g.crash(1)
			}
			g.past = g.past[max(0, len(g.past)-30):]
		}
	}
}

// All of it, drawn, against the slow model

// armed does one call, drawn, with the power perhaps going at it; behind that a
// crash, and the log opened anew, perhaps cut off itself.
func armed(r *rand.Rand, g *rig) {
	g.t.Helper()
	n := 1 + r.Intn(7)
	g.d.Arm(n)
	what := flushing()
	switch r.Intn(4) {
	case 0:
		what = mastering(near(r, g), near(r, g))
	case 1:
		what = dropping(near(r, g))
	}
	err := what.call(g)
	g.did("%s armed with %d: error %d", what.name, n, err)
	waits, picks := g.d.Waits(), make([]byte, r.Intn(20))
	r.Read(picks)
	var may []*model
	if err == api.ErrDown {
		g.fails()
		may = what.may(g.m, waits, picks)
	} else {
		want := api.OK
		if what.does == nil {
			g.m.flush()
		} else {
			want = what.does(g.m)
		}
		g.gives(what.name, err, want)
		g.heads()
		may = []*model{g.m.kept()}
	}
	g.d.Crash(picks)
	g.did("Crash %v", picks)
	cuts := r.Intn(3)
	for range cuts {
		g.d.Arm(1 + r.Intn(4))
		_, err := wal.Open(g.d, g.m.at, g.m.count)
		g.gone(err)
		picks := make([]byte, r.Intn(4))
		r.Read(picks)
		g.d.Crash(picks)
		g.did("Open armed: error %d, Crash %v", err, picks)
	}
	g.found(uint32(2+cuts), may...)
}

func TestDrawnCallsAndCrashes(t *testing.T) {
	r := rand.New(rand.NewSource(9))
	for range 3000 {
		g := rigged(t, 16+r.Intn(4))
		for range 60 {
			switch r.Intn(12) {
			case 0:
				armed(r, g)
			case 1:
				picks := make([]byte, r.Intn(4))
				r.Read(picks)
				g.crash(picks...)
			case 2:
				g.master(near(r, g), near(r, g))
			case 3:
				g.drop(near(r, g))
			case 4:
				g.check()
			case 5:
				x := drawn(r)
				x.Txn *= uint64(r.Intn(2))
				g.append(x)
			default:
				act(r, g)
			}
		}
		g.check()
		g.crash()
	}
}

// near draws a place: of a record, near one, End, or any.
func near(r *rand.Rand, g *rig) uint64 {
	p := g.m.end()
	if k := len(g.m.recs); k > 0 && r.Intn(4) > 0 {
		p = g.m.recs[r.Intn(k)].x.Lsn
	}
	switch r.Intn(8) {
	case 0:
		p += uint64(r.Intn(5)) - 2
	case 1:
		p = 0
	case 2:
		p = r.Uint64() >> r.Intn(64)
	case 3:
		p = g.m.flushed
	}
	return p
}
