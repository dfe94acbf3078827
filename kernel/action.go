package kernel

import (
	"bytes"
	"maps"
	"slices"

	"vicinage/api"
)

// apart is how many bytes that stay as they are cost more in a record of the
// log, as old ones and as new ones, than one more record does.
const apart = 15

// action is one that is open.
type action struct {
	txn    uint64         // of whose actions it undoes the next one; 0: it undoes none
	begun  uint64         // where the log ended then
	writes int            // how often it changed a page
	wrote  map[int]change // the pages that it changed
}

// change is what an action makes of a page.
type change struct {
	first uint64 // the place of the first record that tells it
	body  []byte
}

// chain is an open transaction.
type chain struct {
	first, last uint64 // places of ends of its actions
	undos       []undo // of its actions that are to be undone yet
}

// undo is how to undo the action whose end has a place.
type undo struct {
	place uint64
	how   []byte
}

// start begins an action, which may undo one of a transaction.
func (k *Kernel) start(txn uint64) {
	k.act = &action{txn: txn, begun: k.l.End(), wrote: map[int]change{}}
}

// body is a page's body, in memory of its own.
func (k *Kernel) body(n int) []byte {
	if k.act != nil {
		if w, ok := k.act.wrote[n]; ok {
			return bytes.Clone(w.body)
		}
	}
	return k.get(n).Body
}

// write is a write of the open action.
func (k *Kernel) write(n int, body []byte) api.Errno {
	l := records(n, k.body(n), body)
	if len(l) == 0 {
		return api.OK
	}
	first, ok := k.add(k.beside(n), l...)
	if !ok {
		return api.ErrFull
	}
	if w, again := k.act.wrote[n]; again {
		first = w.first
	}
	k.act.wrote[n] = change{first, bytes.Clone(body)}
	k.act.writes++
	return api.OK
}

// beside is what is to be left in the log behind a write of the page n.
func (k *Kernel) beside(n int) int {
	_, again := k.act.wrote[n]
	switch {
	case k.act.txn == 0:
		return k.Keep()
	case k.act.writes < 2 && !again:
		// KeepUndo is for just these writes, and the end.
		return 0
	}
	return k.Keep() - api.KeepUndo
}

// end ends the open action with the record x, if so much is left behind it.
func (k *Kernel) end(x api.Rec, keep int) api.Errno {
	at, ok := k.add(keep, x)
	if !ok {
		return api.ErrFull
	}
	x.Lsn = at
	k.note(x)
	wrote := k.act.wrote
	k.act = nil
	for _, n := range slices.Sorted(maps.Keys(wrote)) {
		w := wrote[n]
		// Twice: the page is dirty from the first of its records on, and must
		// not be put back ahead of the action's end.
		k.put(n, api.Paper{Lsn: w.first, Body: w.body})
		k.put(n, api.Paper{Lsn: at, Body: w.body})
	}
	return api.OK
}

// close tells the end of a transaction, if it is open: what is kept for that has room.
func (k *Kernel) close(x api.Rec) {
	if _, open := k.open[x.Txn]; !open {
		return
	}
	_, err := k.l.Append(x)
	must(err)
	k.note(x)
}

// point tells a point, and gives up what of the log is not wanted.
func (k *Kernel) point() api.Errno {
	start := k.wanted()
	x := api.Rec{Kind: api.RecPoint, Open: k.chains(), Dirty: k.p.Dirty()}
	keep := k.Keep() - api.KeepAll
	at, ok := k.add(keep, x)
	if !ok {
		// Points may have taken all of KeepAll. What is not wanted can be given up
		// without one, and if KeepAll is there then, there is room for this one.
		if k.leftFrom(start) < k.Keep() {
			return api.ErrFull
		}
		k.giveUp(start, 0)
		at, _ = k.add(keep, x)
	}
	k.giveUp(start, at)
	return api.OK
}

// add puts records behind the log, if so much is left behind them; all, or none
// of them. It tells the place of the first one.
func (k *Kernel) add(keep int, l ...api.Rec) (uint64, bool) {
	first := k.l.End()
	for _, x := range l {
		_, err := k.l.Append(x)
		if err != api.ErrFull {
			must(err)
		}
		if err == api.ErrFull || k.l.Left() < keep {
			must(k.l.Drop(first))
			return 0, false
		}
	}
	return first, true
}

// note takes what a record of the log tells of transactions.
func (k *Kernel) note(x api.Rec) {
	switch x.Kind {
	case api.RecEnd:
		if x.Txn != 0 {
			k.open[x.Txn] = k.longer(x)
		}
	case api.RecCommit, api.RecDone:
		delete(k.open, x.Txn)
	}
}

// longer is a transaction with one more end of an action.
func (k *Kernel) longer(x api.Rec) chain {
	t, open := k.open[x.Txn]
	if !open {
		t.first = x.Lsn
	}
	t.last = x.Lsn
	if x.Clr {
		t.undos = slices.DeleteFunc(t.undos, func(u undo) bool { return u.place > x.Next })
	} else if len(x.Undo) > 0 {
		t.undos = append(t.undos, undo{x.Lsn, bytes.Clone(x.Undo)})
	}
	return t
}

// behindNext is the place of what is to be undone behind what is to be undone next; 0, if nothing is.
func (t chain) behindNext() uint64 {
	if n := len(t.undos); n > 1 {
		return t.undos[n-2].place
	}
	return 0
}

// chains is the open transactions as a point tells them.
func (k *Kernel) chains() []api.Chain {
	var l []api.Chain
	for _, txn := range k.numbers() {
		t := k.open[txn]
		l = append(l, api.Chain{Txn: txn, First: t.first, Last: t.last})
	}
	return l
}

// numbers is the numbers of the open transactions, rising.
func (k *Kernel) numbers() []uint64 { return slices.Sorted(maps.Keys(k.open)) }

// wanted is the place from which on the log is wanted.
func (k *Kernel) wanted() uint64 {
	at := k.l.End()
	for _, x := range k.p.Dirty() {
		at = min(at, x.Lsn)
	}
	for _, t := range k.open {
		at = min(at, t.first)
	}
	return at
}

// leftFrom is what were left in the log, if it started at another place.
func (k *Kernel) leftFrom(start uint64) int {
	return k.l.Left() + api.HalfLog*int(start/api.HalfLog-k.l.Start()/api.HalfLog)
}

// giveUp makes all last that was told, and the log start at a place.
func (k *Kernel) giveUp(start, point uint64) {
	must(k.l.Flush())
	must(k.l.Master(start, point))
}

// get is a page of the pool.
func (k *Kernel) get(n int) api.Paper {
	x, err := k.p.Get(n)
	must(err)
	return x
}

// put makes it another one.
func (k *Kernel) put(n int, x api.Paper) { must(k.p.Put(n, x)) }

// records is what tells that the body of the page n becomes another one: a
// record for each row of bytes that do.
func records(n int, was, now []byte) []api.Rec {
	var l []api.Rec
	for _, r := range rows(was, now) {
		l = append(l, api.Rec{Kind: api.RecWrite, Page: uint32(n), Off: uint16(r.from), Old: was[r.from:r.to], New: now[r.from:r.to]})
	}
	return l
}

// row is bytes of a body.
type row struct{ from, to int }

// rows is where two bodies are different, but for a few bytes between.
func rows(was, now []byte) []row {
	var l []row
	for i := range now {
		if was[i] == now[i] {
			continue
		}
		if n := len(l); n > 0 && i-l[n-1].to < apart {
			l[n-1].to = i + 1
		} else {
			l = append(l, row{i, i + 1})
		}
	}
	return l
}
