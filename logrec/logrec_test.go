package logrec_test

import (
	"bytes"
	"encoding/hex"
	"fmt"
	"hash/crc32"
	"math"
	"math/rand"
	"slices"
	"strings"
	"sync"
	"testing"

	"vicinage/api"
	"vicinage/logrec"
)

const (
	max16 = math.MaxUint16
	max32 = math.MaxUint32
	max64 = math.MaxUint64

	ahead = 19   // bytes of a form ahead of what its kind has
	most  = 1173 // bytes of the longest form: a point with all that it may have
)

// named is a record with a name.
type named struct {
	name string
	x    api.Rec
}

func join(parts ...[]byte) []byte { return slices.Concat(parts...) }

func rep(x byte, n int) []byte { return bytes.Repeat([]byte{x}, n) }

// text is n bytes from first on, rising, and round again.
func text(n int, first byte) []byte {
	b := make([]byte, n)
	for i := range b {
		b[i] = first + byte(i)
	}
	return b
}

// unhex is bytes told by their digits, with blanks between.
func unhex(s string) []byte {
	b, err := hex.DecodeString(strings.ReplaceAll(s, " ", ""))
	if err != nil {
		panic(err)
	}
	return b
}

// chains is n open transactions, no two of their numbers alike.
func chains(n int) []api.Chain {
	l := make([]api.Chain, n)
	for i := range l {
		u := uint64(i) * 1000
		l[i] = api.Chain{Txn: u + 1<<56, First: u + 2<<32, Last: u + 3}
	}
	return l
}

// dirts is n dirty pages, no two of their numbers alike.
func dirts(n int) []api.Dirt {
	l := make([]api.Dirt, n)
	for i := range l {
		l[i] = api.Dirt{Page: uint32(i)*500 + 1<<24, Lsn: uint64(i)*700 + 5<<40}
	}
	return l
}

func write(page uint32, off uint16, old, now []byte) api.Rec {
	return api.Rec{Kind: api.RecWrite, Lsn: 52, Epoch: 1, Page: page, Off: off, Old: old, New: now}
}

func end(txn, prev uint64, undo []byte) api.Rec {
	return api.Rec{Kind: api.RecEnd, Lsn: 52, Epoch: 1, Txn: txn, Prev: prev, Undo: undo}
}

func clr(txn, prev, next uint64) api.Rec {
	return api.Rec{Kind: api.RecEnd, Lsn: 52, Epoch: 1, Txn: txn, Prev: prev, Next: next, Clr: true}
}

func commit(txn, stamp uint64) api.Rec {
	return api.Rec{Kind: api.RecCommit, Lsn: 52, Epoch: 1, Txn: txn, Stamp: stamp}
}

func done(txn uint64) api.Rec {
	return api.Rec{Kind: api.RecDone, Lsn: 52, Epoch: 1, Txn: txn}
}

func point(open []api.Chain, dirty []api.Dirt) api.Rec {
	return api.Rec{Kind: api.RecPoint, Lsn: 52, Epoch: 1, Open: open, Dirty: dirty}
}

// at is a record with another place and epoch.
func at(lsn uint64, epoch uint32, x api.Rec) api.Rec {
	x.Lsn, x.Epoch = lsn, epoch
	return x
}

// greatest is a record of each kind with the greatest number in each field, and all that it may have.
func greatest() []named {
	open, dirty := make([]api.Chain, 16), make([]api.Dirt, 64)
	for i := range open {
		open[i] = api.Chain{Txn: max64, First: max64, Last: max64}
	}
	for i := range dirty {
		dirty[i] = api.Dirt{Page: max32, Lsn: max64}
	}
	return []named{
		{"the greatest write", at(max64, max32, write(max32, 499, rep(255, 1), rep(255, 1)))},
		{"the longest write", at(max64, max32, write(max32, 0, rep(255, 500), rep(255, 500)))},
		{"the greatest end", at(max64, max32, end(max64, max64, rep(255, 64)))},
		{"the greatest compensation", at(max64, max32, clr(max64, max64, max64))},
		{"the greatest commit", at(max64, max32, commit(max64, max64))},
		{"the greatest done", at(max64, max32, done(max64))},
		{"the greatest point", at(max64, max32, point(open, dirty))},
	}
}

// smallest is a record of each kind with the least number in each field, and nothing that it need not have.
func smallest() []named {
	return []named{
		{"the least write", at(0, 0, write(0, 0, []byte{0}, []byte{0}))},
		{"the least end", at(0, 0, end(0, 0, nil))},
		{"the least compensation", at(0, 0, clr(0, 0, 0))},
		{"the least commit", at(0, 0, commit(1, 0))},
		{"the least done", at(0, 0, done(1))},
		{"the least point", at(0, 0, point(nil, nil))},
	}
}

// plain is ordinary records of each kind.
func plain() []named {
	return []named{
		{"a write", at(0x0807060504030201, 0x0C0B0A09, write(0x14131211, 0x0122, []byte("abc"), []byte("xyz")))},
		{"a write that changes nothing", write(3, 7, []byte("same"), []byte("same"))},
		{"a write of noughts", write(9, 100, rep(7, 130), rep(0, 130))},
		{"an end", at(0x1817161514131211, 0x1C1B1A19, end(0x2827262524232221, 0x3837363534333231, []byte("undo")))},
		{"an end for nobody", end(0, 0, nil)},
		{"an end without an undo", end(7, 52, nil)},
		{"a compensation", at(0x1817161514131211, 0x1C1B1A19, clr(0x2827262524232221, 0x3837363534333231, 0x4847464544434241))},
		{"a compensation, nothing next", clr(7, 500, 0)},
		{"a commit", at(0x1817161514131211, 0x1C1B1A19, commit(0x2827262524232221, 0x3837363534333231))},
		{"a done", at(0x1817161514131211, 0x1C1B1A19, done(0x2827262524232221))},
		{"a point", at(0x1817161514131211, 0x1C1B1A19, point([]api.Chain{{Txn: 0x2827262524232221, First: 0x3837363534333231, Last: 0x4847464544434241}, {Txn: 2, First: 3, Last: 4}}, []api.Dirt{{Page: 0x54535251, Lsn: 0x6867666564636261}, {Page: 5, Lsn: 6}, {Page: 7, Lsn: 8}}))},
		{"a point with nothing open", point(nil, dirts(3))},
		{"a point with nothing dirty", point(chains(2), nil)},
	}
}

// mayBe is records that may be: ordinary ones, and those at the edges.
func mayBe() []named {
	l := lists(plain(), smallest(), greatest())
	for _, n := range []int{1, 2, 126, 127, 128, 129, 255, 256, 257, 498, 499, 500} {
		l = append(l, named{fmt.Sprintf("a write of %d", n), write(1, 0, text(n, 3), text(n, 90))})
		l = append(l, named{fmt.Sprintf("a write of %d at the end", n), write(1, uint16(500-n), text(n, 3), text(n, 90))})
		if n < 500 {
			l = append(l, named{fmt.Sprintf("a write of %d, one ahead of the end", n), write(1, uint16(499-n), text(n, 3), text(n, 90))})
		}
	}
	for _, n := range []int{0, 1, 2, 63, 64} {
		l = append(l, named{fmt.Sprintf("an end with an undo of %d", n), end(7, 52, text(n, 3))})
		l = append(l, named{fmt.Sprintf("nobody's end with an undo of %d", n), end(0, 0, text(n, 3))})
	}
	for _, n := range []int{0, 1, 2, 15, 16} {
		l = append(l, named{fmt.Sprintf("a point with %d open", n), point(chains(n), nil)})
		l = append(l, named{fmt.Sprintf("a point with %d open, 64 dirty", n), point(chains(n), dirts(64))})
	}
	for _, n := range []int{0, 1, 2, 63, 64} {
		l = append(l, named{fmt.Sprintf("a point with %d dirty", n), point(nil, dirts(n))})
		l = append(l, named{fmt.Sprintf("a point with 16 open, %d dirty", n), point(chains(16), dirts(n))})
	}
	return append(l,
		named{"an end, empty lists", api.Rec{Kind: api.RecEnd, Old: []byte{}, New: []byte{}, Undo: []byte{}, Open: []api.Chain{}, Dirty: []api.Dirt{}}},
		named{"a compensation for nobody", clr(0, 0, 9)},
		named{"a compensation with an empty undo", api.Rec{Kind: api.RecEnd, Txn: 1, Next: 9, Clr: true, Undo: []byte{}}},
		named{"a point, empty lists", point([]api.Chain{}, []api.Dirt{})},
		named{"a point of noughts", point(make([]api.Chain, 2), make([]api.Dirt, 2))},
		named{"a point of some twice", point([]api.Chain{{Txn: 5, First: 6, Last: 7}, {Txn: 5, First: 6, Last: 7}}, []api.Dirt{{Page: 1, Lsn: 2}, {Page: 1, Lsn: 2}})},
	)
}

func lists(parts ...[]named) []named { return slices.Concat(parts...) }

// mayNotBe is records that may not be for a reason within their kind, or for their kind.
func mayNotBe() []named {
	l := []named{
		{"none", api.Rec{}},
		{"a write without bytes", write(1, 0, nil, nil)},
		{"a write of empty lists", write(1, 0, []byte{}, []byte{})},
		{"a write of none at the end", write(1, 500, nil, nil)},
		{"a write of 501", write(1, 0, text(501, 1), text(501, 2))},
		{"a write of 756: a byte's 500", write(1, 0, text(756, 1), text(756, 2))},
		{"a write of 2^16 + 1", write(1, 0, text(1<<16+1, 1), text(1<<16+1, 2))},
		{"a write of 500 from 1 on", write(1, 1, text(500, 1), text(500, 2))},
		{"a write of 499 from 2 on", write(1, 2, text(499, 1), text(499, 2))},
		{"a write of 1 from 500 on", write(1, 500, text(1, 1), text(1, 2))},
		{"a write of 1 from 501 on", write(1, 501, text(1, 1), text(1, 2))},
		{"a write of 1 from 65535 on", write(1, max16, text(1, 1), text(1, 2))},
		{"a write of 500 from 65535 on", write(1, max16, text(500, 1), text(500, 2))},
		{"a write of 250 from 65286 on", write(1, max16-249, text(250, 1), text(250, 2))},
		{"a write, Old alone", write(1, 0, text(1, 1), nil)},
		{"a write, New alone", write(1, 0, nil, text(1, 1))},
		{"a write, Old longer by one", write(1, 0, text(4, 1), text(3, 1))},
		{"a write, New longer by one", write(1, 0, text(3, 1), text(4, 1))},
		{"a write, Old 500, New 499", write(1, 0, text(500, 1), text(499, 1))},
		{"a write, Old 499, New 500", write(1, 0, text(499, 1), text(500, 1))},
		{"a write, Old 501, New 500", write(1, 0, text(501, 1), text(500, 1))},
		{"a write, Old 500, New 501", write(1, 0, text(500, 1), text(501, 1))},
		{"an end with an undo of 65", end(1, 2, text(65, 1))},
		{"an end with an undo of 500", end(1, 2, text(500, 1))},
		{"an end with an undo of 320: a byte's 64", end(1, 2, text(320, 1))},
		{"an end, Next 1", api.Rec{Kind: api.RecEnd, Txn: 1, Prev: 2, Next: 1}},
		{"an end, Next 5, for nobody", api.Rec{Kind: api.RecEnd, Next: 5}},
		{"an end, the greatest Next", api.Rec{Kind: api.RecEnd, Txn: 1, Next: max64}},
		{"an end, Next 2^32", api.Rec{Kind: api.RecEnd, Txn: 1, Next: 1 << 32}},
		{"an end, Next and an undo", api.Rec{Kind: api.RecEnd, Txn: 1, Next: 5, Undo: []byte{1}}},
		{"a compensation with an undo", api.Rec{Kind: api.RecEnd, Txn: 1, Next: 5, Clr: true, Undo: []byte{1}}},
		{"a compensation with an undo, Next 0", api.Rec{Kind: api.RecEnd, Txn: 1, Clr: true, Undo: []byte{0}}},
		{"a compensation with an undo of 64", api.Rec{Kind: api.RecEnd, Clr: true, Undo: text(64, 1)}},
		{"a commit of 0", commit(0, 0)},
		{"a commit of 0 with a stamp", commit(0, 9)},
		{"a done of 0", done(0)},
		{"a point with 17 open", point(chains(17), nil)},
		{"a point with 17 open, 64 dirty", point(chains(17), dirts(64))},
		{"a point with 65 dirty", point(nil, dirts(65))},
		{"a point with 16 open, 65 dirty", point(chains(16), dirts(65))},
		{"a point with 17 open, 65 dirty", point(chains(17), dirts(65))},
		{"a point with 256 open", point(chains(256), nil)},
		{"a point with 256 dirty", point(nil, dirts(256))},
		{"a point with 17 open of noughts", point(make([]api.Chain, 17), nil)},
		{"a point with 65 dirty of noughts", point(nil, make([]api.Dirt, 65))},
	}
	for _, k := range []int{0, -1, -3, -5, 6, 7, 127, 128, 255, 256, 257, 259, 261, -251, -253, 1<<32 + 4, math.MaxInt, math.MaxInt - 251, math.MinInt, math.MinInt + 4} {
		for _, x := range []api.Rec{{}, {Lsn: 52, Epoch: 1}, done(7), commit(7, 8), end(7, 8, []byte{9}), clr(7, 8, 9), write(1, 2, []byte{3}, []byte{4}), point(chains(1), dirts(1))} {
			x.Kind = api.RecKind(k)
			l = append(l, named{fmt.Sprintf("the Kind %d: %s", k, tell(x)), x})
		}
	}
	return append(l, foreign()...)
}

// field is one of a record's fields: which kinds have it, what makes it other
// than zero, and what leaves it zero (or empty).
type field struct {
	name  string
	kinds []api.RecKind
	other []func(x *api.Rec)
	zero  []func(x *api.Rec)
}

// numbers is what sets a number to what is other than zero.
func numbers(bits int, set func(x *api.Rec, n uint64)) []func(x *api.Rec) {
	var l []func(x *api.Rec)
	for _, n := range []uint64{1, 0x80, 1 << (bits - 1), 1<<bits - 1} {
		l = append(l, func(x *api.Rec) { set(x, n) })
	}
	return l
}

func fields() []field {
	write, end, commit, done, point := api.RecWrite, api.RecEnd, api.RecCommit, api.RecDone, api.RecPoint
	text := func(of func(x *api.Rec) *[]byte) (other, zero []func(x *api.Rec)) {
		return []func(x *api.Rec){func(x *api.Rec) { *of(x) = []byte{1} }, func(x *api.Rec) { *of(x) = []byte{0} }},
			[]func(x *api.Rec){func(x *api.Rec) { *of(x) = nil }, func(x *api.Rec) { *of(x) = []byte{} }, func(x *api.Rec) { *of(x) = make([]byte, 0, 9) }}
	}
	oldOther, oldZero := text(func(x *api.Rec) *[]byte { return &x.Old })
	newOther, newZero := text(func(x *api.Rec) *[]byte { return &x.New })
	undoOther, undoZero := text(func(x *api.Rec) *[]byte { return &x.Undo })
	return []field{
		{"Txn", []api.RecKind{end, commit, done}, numbers(64, func(x *api.Rec, n uint64) { x.Txn = n }), nil},
		{"Page", []api.RecKind{write}, numbers(32, func(x *api.Rec, n uint64) { x.Page = uint32(n) }), nil},
		{"Off", []api.RecKind{write}, numbers(16, func(x *api.Rec, n uint64) { x.Off = uint16(n) }), nil},
		{"Old", []api.RecKind{write}, oldOther, oldZero},
		{"New", []api.RecKind{write}, newOther, newZero},
		{"Undo", []api.RecKind{end}, undoOther, undoZero},
		{"Prev", []api.RecKind{end}, numbers(64, func(x *api.Rec, n uint64) { x.Prev = n }), nil},
		{"Next", []api.RecKind{end}, numbers(64, func(x *api.Rec, n uint64) { x.Next = n }), nil},
		{"Clr", []api.RecKind{end}, []func(x *api.Rec){func(x *api.Rec) { x.Clr = true }}, nil},
		{"Stamp", []api.RecKind{commit}, numbers(64, func(x *api.Rec, n uint64) { x.Stamp = n }), nil},
		{"Open", []api.RecKind{point}, []func(x *api.Rec){
			func(x *api.Rec) { x.Open = []api.Chain{{Txn: 1}} },
			func(x *api.Rec) { x.Open = make([]api.Chain, 1) },
		}, []func(x *api.Rec){
			func(x *api.Rec) { x.Open = nil },
			func(x *api.Rec) { x.Open = []api.Chain{} },
			func(x *api.Rec) { x.Open = make([]api.Chain, 0, 3) },
		}},
		{"Dirty", []api.RecKind{point}, []func(x *api.Rec){
			func(x *api.Rec) { x.Dirty = []api.Dirt{{Lsn: 1}} },
			func(x *api.Rec) { x.Dirty = make([]api.Dirt, 1) },
		}, []func(x *api.Rec){
			func(x *api.Rec) { x.Dirty = nil },
			func(x *api.Rec) { x.Dirty = []api.Dirt{} },
			func(x *api.Rec) { x.Dirty = make([]api.Dirt, 0, 3) },
		}},
	}
}

// foreign is records that may be but for one field that is other than zero, and
// that their kind has not.
func foreign() []named {
	var l []named
	for _, n := range lists(plain(), smallest()) {
		for _, f := range fields() {
			if slices.Contains(f.kinds, n.x.Kind) {
				continue
			}
			for i, set := range f.other {
				x := n.x
				set(&x)
				l = append(l, named{fmt.Sprintf("%s with %s (%d)", n.name, f.name, i), x})
			}
		}
	}
	return l
}

// slowFixed is n in size bytes, the lowest first, by division.
func slowFixed(n uint64, size int) []byte {
	b := make([]byte, size)
	for i := range b {
		b[i] = byte(n % 256)
		n /= 256
	}
	return b
}

// slowCount is the count of n: its digits to the base 128, by division.
func slowCount(n uint64) []byte {
	b := []byte{byte(n % 128)}
	for n /= 128; n > 0; n /= 128 {
		b[len(b)-1] += 128
		b = append(b, byte(n%128))
	}
	return b
}

func slowText(b []byte) []byte { return join(slowCount(uint64(len(b))), b) }

// slowSum is the sum of layer 1, by the library's own.
func slowSum(b []byte) []byte {
	return slowFixed(uint64(crc32.Checksum(b, crc32.MakeTable(crc32.Castagnoli))), 4)
}

// slowOwn is what a record's kind has, as the chapter's words have it.
func slowOwn(x api.Rec) []byte {
	var b []byte
	switch x.Kind {
	case api.RecWrite:
		b = join(slowFixed(uint64(x.Page), 4), slowFixed(uint64(x.Off), 2), slowText(x.Old), slowText(x.New))
	case api.RecEnd:
		b = join(slowFixed(x.Txn, 8), slowFixed(x.Prev, 8), slowFixed(x.Next, 8))
		if x.Clr {
			b = append(b, 1)
		} else {
			b = append(b, 0)
		}
		b = join(b, slowText(x.Undo))
	case api.RecCommit:
		b = join(slowFixed(x.Txn, 8), slowFixed(x.Stamp, 8))
	case api.RecDone:
		b = slowFixed(x.Txn, 8)
	case api.RecPoint:
		b = slowCount(uint64(len(x.Open)))
		for _, c := range x.Open {
			b = join(b, slowFixed(c.Txn, 8), slowFixed(c.First, 8), slowFixed(c.Last, 8))
		}
		b = join(b, slowCount(uint64(len(x.Dirty))))
		for _, d := range x.Dirty {
			b = join(b, slowFixed(uint64(d.Page), 4), slowFixed(d.Lsn, 8))
		}
	}
	return b
}

// sealed is bytes of a form by hand, with a right sum: the size that it says,
// its Lsn, Epoch, Kind, and what comes behind.
func sealed(size int, lsn uint64, epoch uint32, kind byte, own []byte) []byte {
	b := join(slowFixed(uint64(size), 2), slowFixed(lsn, 8), slowFixed(uint64(epoch), 4), []byte{kind}, own)
	return join(slowSum(b), b)
}

// by is a form by hand that says its own size.
func by(kind api.RecKind, own ...[]byte) []byte {
	b := join(own...)
	return sealed(ahead+len(b), 52, 1, byte(kind), b)
}

// resealed is a form with the sum that is right for the size that it says, if
// it has so many bytes; else for all of it.
func resealed(b []byte) []byte {
	n := min(len(b), int(b[4])+256*int(b[5]))
	return join(slowSum(b[4:max(4, n)]), b[4:])
}

// slowForm is a record's form as the chapter's words have it, whether it may be or not.
func slowForm(x api.Rec) []byte {
	own := slowOwn(x)
	return sealed(ahead+len(own), x.Lsn, x.Epoch, byte(x.Kind), own)
}

// slowMay is whether a record may be, by the chapter's words, one kind after the other.
func slowMay(x api.Rec) bool {
	noWrite := x.Page == 0 && x.Off == 0 && len(x.Old) == 0 && len(x.New) == 0
	noEnd := len(x.Undo) == 0 && x.Prev == 0 && x.Next == 0 && !x.Clr
	noPoint := len(x.Open) == 0 && len(x.Dirty) == 0
	if x.Kind == api.RecWrite {
		n := len(x.Old)
		return x.Txn == 0 && noEnd && x.Stamp == 0 && noPoint && n == len(x.New) && n > 0 && n < 501 && int(x.Off)+n < 501
	}
	if x.Kind == api.RecEnd {
		ok := noWrite && x.Stamp == 0 && noPoint && len(x.Undo) < 65
		if x.Clr == false && x.Next != 0 {
			ok = false
		}
		if x.Clr == true && len(x.Undo) != 0 {
			ok = false
		}
		return ok
	}
	if x.Kind == api.RecCommit {
		return x.Txn != 0 && noWrite && noEnd && noPoint
	}
	if x.Kind == api.RecDone {
		return x.Txn != 0 && noWrite && noEnd && noPoint && x.Stamp == 0
	}
	return x.Kind == api.RecPoint && x.Txn == 0 && x.Stamp == 0 && noWrite && noEnd && len(x.Open) < 17 && len(x.Dirty) < 65
}

// slowSame tells whether two records are alike, one thing after the other.
func slowSame(a, b api.Rec) bool {
	if a.Kind != b.Kind || a.Lsn != b.Lsn || a.Epoch != b.Epoch || a.Txn != b.Txn || a.Page != b.Page || a.Off != b.Off {
		return false
	}
	if string(a.Old) != string(b.Old) || string(a.New) != string(b.New) || string(a.Undo) != string(b.Undo) {
		return false
	}
	if a.Prev != b.Prev || a.Next != b.Next || a.Clr != b.Clr || a.Stamp != b.Stamp {
		return false
	}
	if len(a.Open) != len(b.Open) || len(a.Dirty) != len(b.Dirty) {
		return false
	}
	for i := range a.Open {
		if a.Open[i] != b.Open[i] {
			return false
		}
	}
	for i := range a.Dirty {
		if a.Dirty[i] != b.Dirty[i] {
			return false
		}
	}
	return true
}

// cursor goes over bytes, strictly; once something is not there, or is not as
// it should be, it is bad.
type cursor struct {
	rest []byte
	bad  bool
}

func (c *cursor) number(size int) uint64 {
	if c.bad || len(c.rest) < size {
		c.bad = true
		return 0
	}
	var n uint64
	for i := size - 1; i >= 0; i-- {
		n = n*256 + uint64(c.rest[i])
	}
	c.rest = c.rest[size:]
	return n
}

// count is a count below 2^14, in as few bytes as can be.
func (c *cursor) count() int {
	n := int(c.number(1))
	if n >= 128 {
		more := int(c.number(1))
		if more == 0 || more >= 128 {
			c.bad = true
		}
		n += (more - 1) * 128
	}
	return n
}

func (c *cursor) text() []byte {
	n := c.count()
	if c.bad || n > len(c.rest) {
		c.bad = true
		return nil
	}
	b := bytes.Clone(c.rest[:n])
	c.rest = c.rest[n:]
	return b
}

// slowRead is the record with whose form b begins, by a look at the size and the
// sum ahead of all, and then at each thing where it stands.
func slowRead(b []byte) (api.Rec, int, bool) {
	c := &cursor{rest: b}
	sum, size := c.number(4), int(c.number(2))
	if c.bad || size < ahead || size > len(b) || !bytes.Equal(slowFixed(sum, 4), slowSum(b[4:size])) {
		return api.Rec{}, 0, false
	}
	c.rest = b[6:size]
	x := api.Rec{Lsn: c.number(8), Epoch: uint32(c.number(4)), Kind: api.RecKind(c.number(1))}
	switch x.Kind {
	case api.RecWrite:
		x.Page, x.Off, x.Old, x.New = uint32(c.number(4)), uint16(c.number(2)), c.text(), c.text()
	case api.RecEnd:
		x.Txn, x.Prev, x.Next = c.number(8), c.number(8), c.number(8)
		flag := c.number(1)
		x.Clr, x.Undo = flag == 1, c.text()
		c.bad = c.bad || flag > 1
	case api.RecCommit:
		x.Txn, x.Stamp = c.number(8), c.number(8)
	case api.RecDone:
		x.Txn = c.number(8)
	case api.RecPoint:
		for n := c.count(); n > 0 && !c.bad; n-- {
			x.Open = append(x.Open, api.Chain{Txn: c.number(8), First: c.number(8), Last: c.number(8)})
		}
		for n := c.count(); n > 0 && !c.bad; n-- {
			x.Dirty = append(x.Dirty, api.Dirt{Page: uint32(c.number(4)), Lsn: c.number(8)})
		}
	}
	if c.bad || len(c.rest) > 0 || !slowMay(x) {
		return api.Rec{}, 0, false
	}
	return x, size, true
}

// zero tells whether a record is just zero.
func zero(x api.Rec) bool { return slowSame(x, api.Rec{}) }

// clone is a record like x, in other memory.
func clone(x api.Rec) api.Rec {
	x.Old, x.New, x.Undo = bytes.Clone(x.Old), bytes.Clone(x.New), bytes.Clone(x.Undo)
	x.Open, x.Dirty = slices.Clone(x.Open), slices.Clone(x.Dirty)
	return x
}

// tell is a record in words that are not too long.
func tell(x api.Rec) string {
	some := func(b []byte) string { return fmt.Sprintf("%d bytes %x", len(b), b[:min(4, len(b))]) }
	return fmt.Sprintf("Kind %d, Lsn %d, Epoch %d, Txn %d, Page %d, Off %d, Old %s, New %s, Undo %s, Prev %d, Next %d, Clr %t, Stamp %d, %d open %v, %d dirty %v",
		x.Kind, x.Lsn, x.Epoch, x.Txn, x.Page, x.Off, some(x.Old), some(x.New), some(x.Undo), x.Prev, x.Next, x.Clr, x.Stamp,
		len(x.Open), x.Open[:min(2, len(x.Open))], len(x.Dirty), x.Dirty[:min(2, len(x.Dirty))])
}

// refused tells it, if May, Bytes or Size takes a record that may not be.
func refused(t *testing.T, what string, x api.Rec) {
	t.Helper()
	if logrec.May(x) {
		t.Errorf("%s: it may be", what)
	}
	if b, err := logrec.Bytes(x); err != api.ErrArg || len(b) != 0 {
		t.Errorf("%s: Bytes: %d bytes, error %d, not ErrArg alone", what, len(b), err)
	}
	if n := logrec.Size(x); n != 0 {
		t.Errorf("%s: the size %d, not 0", what, n)
	}
}

// formed tells it, if a record that may be has another form than this.
func formed(t *testing.T, what string, x api.Rec, want []byte) {
	t.Helper()
	if !logrec.May(x) {
		t.Errorf("%s: it may not be", what)
	}
	if b, err := logrec.Bytes(x); err != api.OK || !bytes.Equal(b, want) {
		t.Errorf("%s: Bytes: error %d, %x, not %x", what, err, b, want)
	}
	if n := logrec.Size(x); n != len(want) {
		t.Errorf("%s: the size %d, not %d", what, n, len(want))
	}
}

// reads tells it, if bytes do not begin with the form of want, of size bytes.
func reads(t *testing.T, what string, b []byte, want api.Rec, size int) {
	t.Helper()
	if x, n, err := logrec.Read(b); err != api.OK || n != size || !slowSame(x, want) {
		t.Errorf("%s: Read: error %d, %d bytes, %s; not %d bytes, %s", what, err, n, tell(x), size, tell(want))
	}
}

// unread tells it, if Read does not tell ErrBytes, and nothing beside it.
func unread(t *testing.T, what string, b []byte) {
	t.Helper()
	if x, n, err := logrec.Read(b); err != api.ErrBytes || n != 0 || !zero(x) {
		t.Errorf("%s: Read: error %d, %d bytes, %s; not ErrBytes alone", what, err, n, tell(x))
	}
}

// asTheModel tells it, if Read is not just what the slow model tells.
func asTheModel(t *testing.T, what string, b []byte) bool {
	t.Helper()
	want, size, ok := slowRead(b)
	if ok {
		reads(t, what, b, want, size)
	} else {
		unread(t, what, b)
	}
	return ok
}

// Forms by hand, so that the model itself is held against the chapter's words.
func TestFormsByHand(t *testing.T) {
	for _, c := range []struct {
		name string
		x    api.Rec
		want string // behind the sum
	}{
		{"a write", at(0x0807060504030201, 0x0C0B0A09, write(0x14131211, 0x0122, []byte("abc"), []byte("xyz"))),
			"21 00  01 02 03 04 05 06 07 08  09 0A 0B 0C  01  11 12 13 14  22 01  03 61 62 63  03 78 79 7A"},
		{"an end", at(0x0807060504030201, 0x0C0B0A09, end(0x2827262524232221, 0x3837363534333231, []byte("undo"))),
			"31 00  01 02 03 04 05 06 07 08  09 0A 0B 0C  02  21 22 23 24 25 26 27 28  31 32 33 34 35 36 37 38  00 00 00 00 00 00 00 00  00  04 75 6E 64 6F"},
		{"a compensation", at(0x0807060504030201, 0x0C0B0A09, clr(0x2827262524232221, 0x3837363534333231, 0x4847464544434241)),
			"2D 00  01 02 03 04 05 06 07 08  09 0A 0B 0C  02  21 22 23 24 25 26 27 28  31 32 33 34 35 36 37 38  41 42 43 44 45 46 47 48  01  00"},
		{"a commit", at(0x0807060504030201, 0x0C0B0A09, commit(0x2827262524232221, 0x3837363534333231)),
			"23 00  01 02 03 04 05 06 07 08  09 0A 0B 0C  03  21 22 23 24 25 26 27 28  31 32 33 34 35 36 37 38"},
		{"a done", at(0x0807060504030201, 0x0C0B0A09, done(0x2827262524232221)),
			"1B 00  01 02 03 04 05 06 07 08  09 0A 0B 0C  04  21 22 23 24 25 26 27 28"},
		{"a point", at(0x0807060504030201, 0x0C0B0A09, point([]api.Chain{{Txn: 0x2827262524232221, First: 0x3837363534333231, Last: 0x4847464544434241}}, []api.Dirt{{Page: 0x54535251, Lsn: 0x6867666564636261}, {Page: 1, Lsn: 2}})),
			"45 00  01 02 03 04 05 06 07 08  09 0A 0B 0C  05  01  21 22 23 24 25 26 27 28  31 32 33 34 35 36 37 38  41 42 43 44 45 46 47 48  02  51 52 53 54  61 62 63 64 65 66 67 68  01 00 00 00  02 00 00 00 00 00 00 00"},
		{"a point of nothing", at(1, 2, point(nil, nil)), "15 00  01 00 00 00 00 00 00 00  02 00 00 00  05  00  00"},
	} {
		behind := unhex(c.want)
		want := join(slowSum(behind), behind)
		formed(t, c.name, c.x, want)
		reads(t, c.name, want, c.x, len(want))
		if !bytes.Equal(slowForm(c.x), want) {
			t.Errorf("%s: the model's form is %x", c.name, slowForm(c.x))
		}
	}
}

// The sum goes over all that follows it, and is layer 1's: told here in digits.
func TestTheSumByHand(t *testing.T) {
	x := at(0, 0, done(1))
	b, err := logrec.Bytes(x)
	behind := unhex("1B 00  00 00 00 00 00 00 00 00  00 00 00 00  04  01 00 00 00 00 00 00 00")
	sum := ^uint32(0)
	for _, c := range behind {
		sum ^= uint32(c)
		for range 8 {
			out := sum & 1
			sum = sum>>1 ^ 0x82F63B78*out
		}
	}
	want := join(slowFixed(uint64(^sum), 4), behind)
	if err != api.OK || !bytes.Equal(b, want) {
		t.Errorf("error %d, %x, not %x", err, b, want)
	}
}

func TestExamples(t *testing.T) {
	for _, c := range []struct {
		name string
		x    api.Rec
		want int
	}{
		{"RecDone of 7", api.Rec{Kind: api.RecDone, Txn: 7}, 27},
		{"RecCommit", api.Rec{Kind: api.RecCommit, Txn: 7, Stamp: 8}, 35},
		{"RecWrite of one byte", api.Rec{Kind: api.RecWrite, Old: []byte{1}, New: []byte{2}}, 29},
	} {
		if n := logrec.Size(c.x); n != c.want {
			t.Errorf("Size of %s: %d, not %d", c.name, n, c.want)
		}
	}
	refused(t, "RecDone of 0", api.Rec{Kind: api.RecDone})
	refused(t, "RecEnd with Next 5 and not Clr", api.Rec{Kind: api.RecEnd, Txn: 1, Next: 5})
	for _, n := range mayBe() {
		form, _ := logrec.Bytes(n.x)
		reads(t, n.name+" and nine bytes more", join(form, text(9, 200)), n.x, len(form))
		unread(t, n.name+" without its last byte", form[:len(form)-1])
	}
}

// P9.1: ordinary records of each kind, and at the edges.
func TestMayBe(t *testing.T) {
	for _, n := range mayBe() {
		if !slowMay(n.x) {
			t.Errorf("%s: the model refuses it", n.name)
		}
		formed(t, n.name, n.x, slowForm(n.x))
	}
}

func TestMayNotBe(t *testing.T) {
	for _, n := range mayNotBe() {
		if slowMay(n.x) {
			t.Errorf("%s: the model takes it", n.name)
		}
		refused(t, n.name, n.x)
	}
}

// Each kind, with each field that it has not, one at a time; lists that are
// empty, in whichever way, are none.
func TestFieldsThatAKindHasNot(t *testing.T) {
	tried := 0
	for _, n := range lists(plain(), smallest(), greatest()) {
		for _, f := range fields() {
			if slices.Contains(f.kinds, n.x.Kind) {
				continue
			}
			for i, set := range f.other {
				x := n.x
				set(&x)
				refused(t, fmt.Sprintf("%s, %s other than zero (%d)", n.name, f.name, i), x)
				tried++
			}
			for i, set := range f.zero {
				x := n.x
				set(&x)
				formed(t, fmt.Sprintf("%s, %s empty (%d)", n.name, f.name, i), x, slowForm(n.x))
			}
		}
	}
	if tried < 500 {
		t.Errorf("just %d were tried", tried)
	}
}

// What of Old and New, and where: all lengths at the edges, alike and not.
func TestLengthsOfOldAndNew(t *testing.T) {
	lengths := []int{0, 1, 2, 127, 128, 250, 255, 256, 498, 499, 500, 501, 502, 755, 756, 1000, 1 << 16, 1<<16 + 1}
	for _, n := range lengths {
		for _, m := range lengths {
			for _, off := range []int{0, 1, 2, 244, 249, 250, 251, 372, 373, 498, 499, 500, 501, 502, 32767, 32768, 65034, 65035, 65036, 65285, 65286, 65534, 65535} {
				x := write(1, uint16(off), text(n, 1), text(m, 2))
				what := fmt.Sprintf("Old of %d, New of %d, Off %d", n, m, off)
				if n == m && n >= 1 && n <= 500 && off+n <= 500 {
					formed(t, what, x, slowForm(x))
				} else {
					refused(t, what, x)
				}
			}
		}
	}
}

// Every Off with every length: whether it is within the body.
func TestEachOffAndLength(t *testing.T) {
	old, now := text(502, 1), text(502, 2)
	for off := range 504 {
		for n := range 503 {
			x := write(1, uint16(off), old[:n], now[:n])
			if want := n > 0 && n <= 500 && off+n <= 500; logrec.May(x) != want {
				t.Fatalf("Off %d, %d bytes: %t", off, n, !want)
			}
		}
	}
}

// Undo, Next, Clr, Txn of an end, in all ways together.
func TestEnds(t *testing.T) {
	for _, n := range []int{0, 1, 2, 63, 64, 65, 66, 127, 128, 255, 256, 257, 320, 1 << 16} {
		for _, next := range []uint64{0, 1, 5, 255, 256, 1 << 32, 1 << 63, max64} {
			for _, c := range []bool{false, true} {
				for _, txn := range []uint64{0, 1, 1 << 32, max64} {
					for _, prev := range []uint64{0, 1, 1 << 32, max64} {
						x := api.Rec{Kind: api.RecEnd, Lsn: 60, Epoch: 2, Txn: txn, Prev: prev, Next: next, Clr: c, Undo: text(n, 1)}
						what := fmt.Sprintf("Undo of %d, Next %d, Clr %t, Txn %d, Prev %d", n, next, c, txn, prev)
						if c && n == 0 || !c && next == 0 && n <= 64 {
							formed(t, what, x, slowForm(x))
							reads(t, what, slowForm(x), x, 45+n)
						} else {
							refused(t, what, x)
						}
					}
				}
			}
		}
	}
}

// Txn 0 may be in RecEnd alone of the three kinds that have it.
func TestTxnNought(t *testing.T) {
	for _, stamp := range []uint64{0, 1, max64} {
		refused(t, "a commit of 0", at(max64, max32, commit(0, stamp)))
	}
	refused(t, "a done of 0", at(max64, max32, done(0)))
	for _, x := range []api.Rec{end(0, 0, nil), end(0, 9, []byte{1}), clr(0, 0, 0), clr(0, 8, 9)} {
		formed(t, tell(x), x, slowForm(x))
	}
	for _, txn := range []uint64{1, 255, 256, 1 << 31, 1 << 32, 1 << 56, 1 << 63, max64} {
		for _, x := range []api.Rec{done(txn), commit(txn, 0), commit(txn, txn), end(txn, 0, nil), clr(txn, 0, 0)} {
			formed(t, tell(x), x, slowForm(x))
			reads(t, tell(x), slowForm(x), x, len(slowForm(x)))
		}
	}
}

// Each number of open transactions and dirty pages, up to more than may be.
func TestPoints(t *testing.T) {
	open, dirty := chains(20), dirts(70)
	for n := range 20 {
		for m := range 70 {
			x := point(open[:n], dirty[:m])
			what := fmt.Sprintf("%d open, %d dirty", n, m)
			if n > 16 || m > 64 {
				refused(t, what, x)
				unread(t, what, slowForm(x))
				continue
			}
			formed(t, what, x, slowForm(x))
			reads(t, what, slowForm(x), x, 21+24*n+12*m)
		}
	}
	for _, n := range []int{127, 128, 256, 1 << 16, 1<<16 + 1} {
		refused(t, fmt.Sprintf("%d open", n), point(make([]api.Chain, n), nil))
		refused(t, fmt.Sprintf("%d dirty", n), point(nil, make([]api.Dirt, n)))
	}
}

// The least and the greatest number in each field, and numbers on both sides
// of each byte: all of it is told.
func TestNumbersOfEachField(t *testing.T) {
	edges := []uint64{0, 1, 0x0102030405060708, 0xF8F7F6F5F4F3F2F1, max64}
	for bits := 7; bits < 64; bits++ {
		edges = append(edges, 1<<bits-1, 1<<bits)
	}
	for _, n := range edges {
		for _, x := range []api.Rec{
			at(n, 1, done(2)), at(n, 1, commit(2, 3)), at(n, 1, end(2, 3, []byte{4})), at(n, 1, clr(2, 3, 4)), at(n, 1, write(2, 3, []byte{4}, []byte{5})), at(n, 1, point(chains(1), dirts(1))),
			at(1, uint32(n), done(2)), at(1, uint32(n), commit(2, 3)), at(1, uint32(n), end(2, 3, []byte{4})), at(1, uint32(n), clr(2, 3, 4)), at(1, uint32(n), write(2, 3, []byte{4}, []byte{5})), at(1, uint32(n), point(chains(1), dirts(1))),
			done(max(n, 1)), commit(max(n, 1), 9), commit(9, n),
			end(n, 8, []byte{7}), end(8, n, []byte{7}), clr(n, 7, 8), clr(8, n, 7), clr(7, 8, n),
			write(uint32(n), 6, []byte{4}, []byte{5}), write(6, uint16(n%500), []byte{byte(n)}, []byte{^byte(n)}),
			point([]api.Chain{{Txn: n, First: 1, Last: 2}}, nil), point([]api.Chain{{Txn: 1, First: n, Last: 2}}, nil), point([]api.Chain{{Txn: 1, First: 2, Last: n}}, nil),
			point(nil, []api.Dirt{{Page: uint32(n), Lsn: 1}}), point(nil, []api.Dirt{{Page: 1, Lsn: n}}),
		} {
			formed(t, tell(x), x, slowForm(x))
			reads(t, tell(x), slowForm(x), x, len(slowForm(x)))
		}
	}
	for off := range 500 {
		x := write(6, uint16(off), []byte{4}, []byte{5})
		formed(t, tell(x), x, slowForm(x))
		reads(t, tell(x), slowForm(x), x, 29)
	}
}

// P9.1: Size is the length of Bytes, for each kind and all lengths.
func TestSizeIsTheLengthOfBytes(t *testing.T) {
	var l []api.Rec
	for n := range 501 {
		l = append(l, write(1, 0, text(n, 1), text(n, 2)))
	}
	for n := range 65 {
		l = append(l, end(1, 2, text(n, 1)), point(chains(n%17), dirts(n)), clr(1, 2, uint64(n)), commit(uint64(n), 1), done(uint64(n)))
	}
	for _, n := range lists(mayBe(), mayNotBe()) {
		l = append(l, n.x)
	}
	for _, x := range l {
		b, err := logrec.Bytes(x)
		if n := logrec.Size(x); n != len(b) || (n == 0) != (err == api.ErrArg) || logrec.May(x) != (n > 0) {
			t.Errorf("%s: the size %d of %d bytes, error %d", tell(x), n, len(b), err)
		}
	}
}

// P9.2: no bytes, and each number of bytes beyond the part ahead, of noughts, of anything.
func TestReadOfFewBytes(t *testing.T) {
	unread(t, "nil", nil)
	unread(t, "no bytes", []byte{})
	unread(t, "no bytes, with room", make([]byte, 0, 64))
	r := rand.New(rand.NewSource(1))
	for n := range 70 {
		unread(t, fmt.Sprintf("%d noughts", n), make([]byte, n))
		unread(t, fmt.Sprintf("%d of 255", n), rep(255, n))
		unread(t, fmt.Sprintf("%d of 1", n), rep(1, n))
		b := make([]byte, n)
		for range 20 {
			r.Read(b)
			asTheModel(t, fmt.Sprintf("drawn: %x", b), b)
			if n >= 6 {
				b[4], b[5] = byte(n), 0
				b = resealed(b)
				asTheModel(t, fmt.Sprintf("drawn, with a right sum: %x", b), b)
			}
		}
	}
	for _, n := range []int{1599, 1600, 1601, 65535, 65536, 1 << 20} {
		unread(t, fmt.Sprintf("%d noughts", n), make([]byte, n))
		unread(t, fmt.Sprintf("%d of 255", n), rep(255, n))
	}
}

// A form cut at each place is none.
func TestReadOfCutForms(t *testing.T) {
	for _, n := range mayBe() {
		form := slowForm(n.x)
		for i := range form {
			what := fmt.Sprintf("%s, cut at %d of %d", n.name, i, len(form))
			unread(t, what, form[:i:i])
			// The room behind it has the rest: it is not to be seen.
			unread(t, what+", with room", form[:i])
			if i >= 6 {
				short := bytes.Clone(form[:i])
				short[4], short[5] = byte(i), byte(i>>8)
				unread(t, what+", with the size that there is", resealed(short))
			}
		}
	}
}

// A form with bytes behind it is read as it is, and tells its own size.
func TestReadOfFormsWithMoreBehind(t *testing.T) {
	r := rand.New(rand.NewSource(2))
	for _, n := range mayBe() {
		form := slowForm(n.x)
		for _, more := range []int{0, 1, 2, 9, 27, 128, 600, 1600, 1 << 17} {
			behind := make([]byte, more)
			reads(t, fmt.Sprintf("%s, %d noughts behind", n.name, more), join(form, behind), n.x, len(form))
			r.Read(behind)
			reads(t, fmt.Sprintf("%s, %d behind", n.name, more), join(form, behind), n.x, len(form))
		}
		for _, m := range plain() {
			two := join(form, slowForm(m.x))
			reads(t, n.name+" ahead of "+m.name, two, n.x, len(form))
			reads(t, m.name+" behind "+n.name, two[len(form):], m.x, len(two)-len(form))
		}
	}
}

// Forms one behind the other are read one behind the other.
func TestReadOneBehindTheOther(t *testing.T) {
	var b []byte
	l := mayBe()
	for _, n := range l {
		form, err := logrec.Bytes(n.x)
		if err != api.OK {
			t.Fatalf("%s: error %d", n.name, err)
		}
		b = append(b, form...)
	}
	for _, n := range l {
		reads(t, n.name, b, n.x, logrec.Size(n.x))
		b = b[logrec.Size(n.x):]
	}
	unread(t, "behind the last one", b)
}

// A size that says less and more than there is, with the sum right for what it says.
func TestReadOfOtherSizes(t *testing.T) {
	for _, n := range lists(plain(), smallest(), greatest()) {
		form := slowForm(n.x)
		long := join(form, text(2000, 9))
		sizes := []int{0, 1, 2, 3, 4, 5, 6, 7, 18, 19, 20, 26, 27, 28, len(form) - 2, len(form) - 1, len(form) + 1, len(form) + 2, len(form) + 9, len(form) + 255, len(form) + 256, 1173, 1174, 1600, 1601, 2000, 32768, 65535}
		for _, size := range sizes {
			if size == len(form) {
				continue
			}
			for _, b := range [][]byte{bytes.Clone(form), bytes.Clone(long), join(form, make([]byte, 2000))} {
				b[4], b[5] = byte(size), byte(size>>8)
				what := fmt.Sprintf("%s of %d bytes, says %d, of %d", n.name, len(form), size, len(b))
				unread(t, what, b)
				unread(t, what+", with a right sum", resealed(b))
				// The sum of all of the form's own bytes, whatever the size says.
				unread(t, what+", with the form's sum", join(slowSum(b[4:len(form)]), b[4:]))
			}
		}
	}
}

// Bytes with a right sum whose kind is none.
func TestReadOfOtherKinds(t *testing.T) {
	for _, n := range lists(plain(), smallest()) {
		form := slowForm(n.x)
		for kind := range 256 {
			b := bytes.Clone(form)
			b[18] = byte(kind)
			b = resealed(b)
			what := fmt.Sprintf("%s with the kind %d", n.name, kind)
			ok := asTheModel(t, what, b)
			if kind == 0 || kind > 5 {
				if ok {
					t.Errorf("%s: the model takes it", what)
				}
				unread(t, what, b)
			}
		}
	}
	for kind := range 256 {
		for size := range 60 {
			b := sealed(ahead+size, 52, 1, byte(kind), make([]byte, size))
			asTheModel(t, fmt.Sprintf("the kind %d and %d noughts", kind, size), b)
			b = sealed(ahead+size, 52, 1, byte(kind), rep(1, size))
			asTheModel(t, fmt.Sprintf("the kind %d and %d of 1", kind, size), b)
		}
	}
}

// Bytes with a right sum of a record that may not be.
func TestReadOfRecordsThatMayNotBe(t *testing.T) {
	for _, n := range mayNotBe() {
		if slices.ContainsFunc(foreign(), func(m named) bool { return m.name == n.name }) {
			continue // a form has no place for what its kind has not
		}
		if n.x.Kind < 1 || n.x.Kind > 5 {
			continue
		}
		unread(t, n.name, slowForm(n.x))
		unread(t, n.name+", more behind", join(slowForm(n.x), text(300, 7)))
	}
}

// Forms by hand, with right sums, that say something in another way than
// layer 2 does, or lead beyond the end, or stop ahead of it.
func TestReadOfFormsThatAreWrittenOtherwise(t *testing.T) {
	num := func(n uint64) []byte { return slowFixed(n, 8) }
	where := join(slowFixed(3, 4), slowFixed(5, 2))
	whose := join(num(7), num(8), num(0))
	next := join(num(7), num(8), num(9))
	for _, c := range []struct {
		name string
		b    []byte
		ok   bool
	}{
		{"a write", by(api.RecWrite, where, []byte{1, 'a', 1, 'b'}), true},
		{"a write, its counts in two bytes", by(api.RecWrite, where, []byte{0x81, 0, 'a', 1, 'b'}), false},
		{"a write, its second count in two bytes", by(api.RecWrite, where, []byte{1, 'a', 0x81, 0, 'b'}), false},
		{"a write, its count in three bytes", by(api.RecWrite, where, []byte{0x81, 0x80, 0, 'a', 1, 'b'}), false},
		{"a write of 200, its counts in three bytes", by(api.RecWrite, where, []byte{0xC8, 0x81, 0}, text(200, 1), []byte{0xC8, 1}, text(200, 2)), false},
		{"a write of 200", by(api.RecWrite, where, []byte{0xC8, 1}, text(200, 1), []byte{0xC8, 1}, text(200, 2)), true},
		{"a write, Old to the end", by(api.RecWrite, where, []byte{3, 'a', 1, 'b'}), false},
		{"a write, Old one byte short of the end", by(api.RecWrite, where, []byte{2, 'a', 1, 'b'}), false},
		{"a write, Old beyond the end", by(api.RecWrite, where, []byte{4, 'a', 1, 'b'}), false},
		{"a write, New beyond the end", by(api.RecWrite, where, []byte{2, 'a', 'b', 2, 'c'}), false},
		{"a write, New one byte short of the end", by(api.RecWrite, where, []byte{1, 'a', 1, 'b', 'c'}), false},
		{"a write, New shorter, one byte short of the end", by(api.RecWrite, where, []byte{2, 'a', 'b', 1, 'c', 'd'}), false},
		{"a write, New longer, to the end", by(api.RecWrite, where, []byte{1, 'a', 2, 'b', 'c'}), false},
		{"a write without New", by(api.RecWrite, where, []byte{1, 'a'}), false},
		{"a write without its texts", by(api.RecWrite, where), false},
		{"a write of none", by(api.RecWrite, where, []byte{0, 0}), false},
		{"a write, a count of 2^63", by(api.RecWrite, where, rep(0x80, 9), []byte{1, 1, 'b'}), false},
		{"a write, a count of 2^64 - 1", by(api.RecWrite, where, rep(0xFF, 9), []byte{1, 1, 'b'}), false},
		{"a write, a count that is none", by(api.RecWrite, where, rep(0xFF, 12)), false},
		{"a write, a count without an end", by(api.RecWrite, where, []byte{0x80}), false},
		{"a write, a second count without an end", by(api.RecWrite, where, []byte{1, 'a', 0x81}), false},
		{"a write of 501", by(api.RecWrite, slowFixed(0, 6), slowText(text(501, 1)), slowText(text(501, 2))), false},
		{"a write of 1 from 500 on", by(api.RecWrite, slowFixed(0, 4), slowFixed(500, 2), []byte{1, 'a', 1, 'b'}), false},
		{"a write of 1 from 65535 on", by(api.RecWrite, slowFixed(0, 4), slowFixed(65535, 2), []byte{1, 'a', 1, 'b'}), false},

		{"an end", by(api.RecEnd, whose, []byte{0, 2, 'a', 'b'}), true},
		{"an end, Clr 2", by(api.RecEnd, whose, []byte{2, 2, 'a', 'b'}), false},
		{"an end, Clr 2, without an undo", by(api.RecEnd, whose, []byte{2, 0}), false},
		{"an end, Clr 1, with an undo", by(api.RecEnd, whose, []byte{1, 2, 'a', 'b'}), false},
		{"an end, Next and Clr 0", by(api.RecEnd, next, []byte{0, 0}), false},
		{"an end, its count in two bytes", by(api.RecEnd, whose, []byte{0, 0x82, 0, 'a', 'b'}), false},
		{"an end, no undo in two bytes", by(api.RecEnd, whose, []byte{0, 0x80, 0}), false},
		{"an end, Undo beyond the end", by(api.RecEnd, whose, []byte{0, 3, 'a', 'b'}), false},
		{"an end, Undo one byte short of the end", by(api.RecEnd, whose, []byte{0, 1, 'a', 'b'}), false},
		{"an end, no undo, one byte short of the end", by(api.RecEnd, whose, []byte{0, 0, 0}), false},
		{"an end without Clr and Undo", by(api.RecEnd, whose), false},
		{"an end without Undo", by(api.RecEnd, whose, []byte{0}), false},
		{"an end, Undo of 65", by(api.RecEnd, whose, []byte{0, 65}, text(65, 1)), false},
		{"an end, Undo of 64", by(api.RecEnd, whose, []byte{0, 64}, text(64, 1)), true},
		{"a compensation", by(api.RecEnd, next, []byte{1, 0}), true},
		{"a compensation, Clr 2", by(api.RecEnd, next, []byte{2, 0}), false},
		{"a compensation, Clr 3", by(api.RecEnd, next, []byte{3, 0}), false},
		{"a compensation, Clr 128", by(api.RecEnd, next, []byte{128, 0}), false},
		{"a compensation, Clr 255", by(api.RecEnd, next, []byte{255, 0}), false},
		{"a compensation with an undo", by(api.RecEnd, next, []byte{1, 1, 'a'}), false},
		{"a compensation, a byte left over", by(api.RecEnd, next, []byte{1, 0, 0}), false},

		{"a commit", by(api.RecCommit, num(7), num(0)), true},
		{"a commit of 0", by(api.RecCommit, num(0), num(7)), false},
		{"a commit, a byte left over", by(api.RecCommit, num(7), num(0), []byte{0}), false},
		{"a commit, eight bytes left over", by(api.RecCommit, num(7), num(0), num(0)), false},
		{"a commit, one byte short", by(api.RecCommit, num(7), num(0)[1:]), false},
		{"a commit without a stamp", by(api.RecCommit, num(7)), false},
		{"a done", by(api.RecDone, num(7)), true},
		{"a done of 0", by(api.RecDone, num(0)), false},
		{"a done, a byte left over", by(api.RecDone, num(7), []byte{0}), false},
		{"a done, eight bytes left over", by(api.RecDone, num(7), num(0)), false},
		{"a done, one byte short", by(api.RecDone, num(7)[:7]), false},
		{"a done without Txn", by(api.RecDone), false},

		{"a point", by(api.RecPoint, []byte{1}, num(1), num(2), num(3), []byte{1}, slowFixed(4, 4), num(5)), true},
		{"a point of nothing", by(api.RecPoint, []byte{0, 0}), true},
		{"a point, its count in two bytes", by(api.RecPoint, []byte{0x81, 0}, num(1), num(2), num(3), []byte{0}), false},
		{"a point, its count 0 in two bytes", by(api.RecPoint, []byte{0x80, 0, 0}), false},
		{"a point, its second count in two bytes", by(api.RecPoint, []byte{0, 0x81, 0}, slowFixed(4, 4), num(5)), false},
		{"a point, its second count 0 in two bytes", by(api.RecPoint, []byte{0, 0x80, 0}), false},
		{"a point, 2 open and 1 is there", by(api.RecPoint, []byte{2}, num(1), num(2), num(3), []byte{0}), false},
		{"a point, 2 open, one byte short", by(api.RecPoint, []byte{2}, make([]byte, 47)), false},
		{"a point, 2 open, just there", by(api.RecPoint, []byte{2}, make([]byte, 48)), false},
		{"a point, 2 open, just there, and a count", by(api.RecPoint, []byte{2}, make([]byte, 49)), true},
		{"a point, 2 open, a byte left over", by(api.RecPoint, []byte{2}, make([]byte, 50)), false},
		{"a point, 2 dirty, one byte short", by(api.RecPoint, []byte{0, 2}, make([]byte, 23)), false},
		{"a point, 2 dirty, just there", by(api.RecPoint, []byte{0, 2}, make([]byte, 24)), true},
		{"a point, 2 dirty, a byte left over", by(api.RecPoint, []byte{0, 2}, make([]byte, 25)), false},
		{"a point, 2 dirty and 3 are there", by(api.RecPoint, []byte{0, 2}, make([]byte, 36)), false},
		{"a point, 17 open", by(api.RecPoint, []byte{17}, make([]byte, 17*24+1)), false},
		{"a point, 65 dirty", by(api.RecPoint, []byte{0, 65}, make([]byte, 65*12)), false},
		{"a point, 17 open, as if none", by(api.RecPoint, []byte{17, 0}), false},
		{"a point, 65 dirty, as if none", by(api.RecPoint, []byte{0, 65}), false},
		{"a point, 128 dirty", by(api.RecPoint, []byte{0, 0x80, 1}, make([]byte, 128*12)), false},
		{"a point, 2^63 open", by(api.RecPoint, rep(0x80, 9), []byte{1}, make([]byte, 48)), false},
		{"a point, 2^64 - 1 open", by(api.RecPoint, rep(0xFF, 9), []byte{1}, make([]byte, 48)), false},
		{"a point, 2^64 - 1 dirty", by(api.RecPoint, []byte{0}, rep(0xFF, 9), []byte{1}, make([]byte, 48)), false},
		{"a point, a count that is none", by(api.RecPoint, rep(0xFF, 20)), false},
		{"a point without a second count", by(api.RecPoint, []byte{0}), false},
		{"a point without counts", by(api.RecPoint), false},
	} {
		if asTheModel(t, c.name, c.b) != c.ok {
			t.Errorf("%s: the model tells %t", c.name, !c.ok)
		}
		for _, behind := range [][]byte{{0}, {1}, make([]byte, 100), rep(1, 700), text(2000, 1)} {
			if asTheModel(t, fmt.Sprintf("%s, %d behind", c.name, len(behind)), join(c.b, behind)) != c.ok {
				t.Errorf("%s: the model tells %t with %d behind", c.name, !c.ok, len(behind))
			}
		}
	}
}

// Counts of all sizes, with right sums, wherever one stands: none of them is taken at its word.
func TestReadOfGreatCounts(t *testing.T) {
	for bits := range 64 {
		for _, n := range []uint64{1 << bits, 1<<bits - 1, 1<<bits + 1, math.MaxUint64 - 1<<bits} {
			count := slowCount(n)
			for _, b := range [][]byte{
				by(api.RecPoint, count, make([]byte, 100)), by(api.RecPoint, []byte{0}, count, make([]byte, 100)), by(api.RecPoint, []byte{1}, make([]byte, 24), count, make([]byte, 100)),
				by(api.RecPoint, count), by(api.RecPoint, []byte{0}, count), by(api.RecPoint, count, []byte{0}),
				by(api.RecWrite, make([]byte, 6), count, make([]byte, 100)), by(api.RecWrite, make([]byte, 6), []byte{1, 1}, count, make([]byte, 100)),
				by(api.RecEnd, make([]byte, 25), count, make([]byte, 100)), by(api.RecEnd, make([]byte, 24), []byte{1}, count, make([]byte, 100)),
			} {
				want, size, ok := slowRead(b)
				if n > 1<<13 && ok {
					t.Errorf("the count %d: the model takes %x", n, b)
				}
				if ok {
					reads(t, fmt.Sprintf("the count %d", n), b, want, size)
				} else {
					unread(t, fmt.Sprintf("the count %d: %x", n, b), b)
				}
			}
		}
	}
}

// Bytes that are left over within the size that a form says, or are missing there.
func TestReadWithBytesLeftOver(t *testing.T) {
	for _, n := range mayBe() {
		own := slowOwn(n.x)
		for _, more := range []int{1, 2, 8, 24, 100} {
			for _, x := range []byte{0, 1, 255} {
				b := join(own, rep(x, more))
				unread(t, fmt.Sprintf("%s, %d of %d left over", n.name, more, x), sealed(ahead+len(b), n.x.Lsn, n.x.Epoch, byte(n.x.Kind), b))
			}
		}
		for less := 1; less <= min(10, len(own)); less++ {
			b := own[:len(own)-less]
			unread(t, fmt.Sprintf("%s, %d missing", n.name, less), sealed(ahead+len(b), n.x.Lsn, n.x.Epoch, byte(n.x.Kind), b))
		}
	}
}

// P9.4: each bit of a form turned, the sum's and the size's too, and any two of
// them that are within four bytes in a row.
func TestEachBitTurned(t *testing.T) {
	for _, n := range lists(plain(), smallest(), greatest()) {
		form := slowForm(n.x)
		for _, b := range [][]byte{bytes.Clone(form), join(form, text(700, 1)), join(form, form)} {
			for i := range 8 * len(form) {
				b[i/8] ^= 1 << (i % 8)
				unread(t, fmt.Sprintf("%s, the bit %d turned", n.name, i), b)
				b[i/8] ^= 1 << (i % 8)
			}
			reads(t, n.name, b, n.x, len(form))
		}
		if len(form) > 120 {
			continue
		}
		for i := 32; i < 8*len(form); i++ {
			for j := i + 1; j < min(8*len(form), i/8*8+32); j++ {
				b := bytes.Clone(form)
				b[i/8] ^= 1 << (i % 8)
				b[j/8] ^= 1 << (j % 8)
				if b[4] == form[4] && b[5] == form[5] {
					unread(t, fmt.Sprintf("%s, the bits %d and %d turned", n.name, i, j), b)
				}
			}
		}
	}
}

// P9.4: some bits behind the sum, within four bytes in a row, turned, while the
// size that it says is the same; whatever is behind the form.
func TestBitsWithinFourBytesTurned(t *testing.T) {
	r := rand.New(rand.NewSource(3))
	for _, n := range mayBe() {
		form := slowForm(n.x)
		tries := max(1, 1000/len(form))
		for from := 4; from+4 <= len(form); from++ {
			for range tries {
				b := bytes.Clone(form)
				for i := range 4 {
					b[from+i] ^= byte(r.Intn(256)) & byte(r.Intn(256))
				}
				b[4], b[5] = form[4], form[5]
				if bytes.Equal(b, form) {
					continue
				}
				what := fmt.Sprintf("%s, turned from %d on: %x", n.name, from, b[from:from+4])
				unread(t, what, b)
				unread(t, what+", more behind", join(b, text(700, byte(from))))
				unread(t, what+", noughts behind", join(b, make([]byte, 700)))
			}
		}
	}
}

// P9.4: every byte of a form, one at a time, with every other value.
func TestEachByteOtherwise(t *testing.T) {
	for _, n := range lists(plain(), smallest()) {
		b := slowForm(n.x)
		for i, was := range b {
			for v := range 256 {
				if b[i] = byte(v); b[i] != was {
					unread(t, fmt.Sprintf("%s, the byte %d is %d", n.name, i, v), b)
				}
			}
			b[i] = was
		}
	}
}

// P9.2 and P9.1 together: with a right sum, bytes are a form just if they are
// that of the record that they tell.
func TestEachByteOtherwiseWithARightSum(t *testing.T) {
	ok := 0
	for _, n := range lists(plain(), smallest()) {
		form := slowForm(n.x)
		for i := 4; i < len(form); i++ {
			for v := range 256 {
				b := bytes.Clone(form)
				b[i] = byte(v)
				if asTheModel(t, fmt.Sprintf("%s, the byte %d is %d, with a right sum", n.name, i, v), resealed(b)) {
					ok++
				}
			}
		}
	}
	if ok < 10000 {
		t.Errorf("just %d were forms", ok)
	}
}

// drawn is a record that may be, of any kind.
func drawn(r *rand.Rand) api.Rec {
	number := func() uint64 { return r.Uint64() >> r.Intn(64) * uint64(r.Intn(8)/2) }
	x := api.Rec{Kind: api.RecKind(1 + r.Intn(5)), Lsn: number(), Epoch: uint32(number())}
	some := func(n int) []byte {
		b := make([]byte, n)
		r.Read(b)
		return b
	}
	switch x.Kind {
	case api.RecWrite:
		n := 1 + r.Intn(500)>>r.Intn(9)
		x.Page, x.Off, x.Old, x.New = uint32(number()), uint16(r.Intn(501-n)), some(n), some(n)
	case api.RecEnd:
		x.Txn, x.Prev, x.Clr = number(), number(), r.Intn(2) == 0
		if x.Clr {
			x.Next = number()
		} else {
			x.Undo = some(r.Intn(65))
		}
	case api.RecCommit:
		x.Txn, x.Stamp = max(1, number()), number()
	case api.RecDone:
		x.Txn = max(1, number())
	case api.RecPoint:
		for range r.Intn(17) {
			x.Open = append(x.Open, api.Chain{Txn: number(), First: number(), Last: number()})
		}
		for range r.Intn(65) {
			x.Dirty = append(x.Dirty, api.Dirt{Page: uint32(number()), Lsn: number()})
		}
	}
	return x
}

// turned is a form with some bytes of it other ones, taken out, put in, or twice.
func turned(r *rand.Rand, b []byte) []byte {
	b = bytes.Clone(b)
	for range 1 + r.Intn(3) {
		i := 4 + r.Intn(len(b)-4)
		switch r.Intn(6) {
		case 0:
			b[i] ^= 1 << r.Intn(8)
		case 1:
			b[i] = byte(r.Intn(256))
		case 2:
			b = slices.Insert(b, i, byte(r.Intn(3)))
		case 3:
			if len(b) > 12 {
				b = slices.Delete(b, i, i+1)
			}
		case 4:
			b[min(18, len(b)-1)] = byte(r.Intn(7))
		default:
			b[4+r.Intn(2)] += byte(r.Intn(5)) - 2
		}
	}
	return b
}

// P9.4, and all together: records that are drawn, and bytes near their forms.
func TestReadIsTheWordsWay(t *testing.T) {
	r := rand.New(rand.NewSource(4))
	ok, none := 0, 0
	for range 20000 {
		x := drawn(r)
		form := slowForm(x)
		formed(t, tell(x), x, form)
		reads(t, tell(x), join(form, text(r.Intn(40), byte(r.Intn(256)))), x, len(form))
		b := turned(r, form)
		if r.Intn(4) > 0 {
			if r.Intn(2) == 0 {
				b[4], b[5] = byte(len(b)), byte(len(b)>>8)
			}
			b = resealed(b)
		}
		b = append(b, text(r.Intn(3)*r.Intn(40), byte(r.Intn(256)))...)
		if asTheModel(t, fmt.Sprintf("%s, turned: %x", tell(x), b), b) {
			ok++
		} else {
			none++
		}
	}
	if ok < 2000 || none < 2000 {
		t.Errorf("%d were forms, %d were none", ok, none)
	}
}

// P9.1: whether a record may be, of records that are drawn, with fields of any kind.
func TestMayIsTheWordsWay(t *testing.T) {
	r := rand.New(rand.NewSource(5))
	all := fields()
	ok, none := 0, 0
	for range 30000 {
		x := drawn(r)
		for range r.Intn(3) {
			f := all[r.Intn(len(all))]
			set := slices.Concat(f.other, f.zero)
			set[r.Intn(len(set))](&x)
		}
		if r.Intn(5) == 0 {
			x.Kind = api.RecKind(r.Intn(8) - 1)
		}
		if slowMay(x) {
			formed(t, tell(x), x, slowForm(x))
			ok++
		} else {
			refused(t, tell(x), x)
			none++
		}
	}
	if ok < 5000 || none < 5000 {
		t.Errorf("%d may be, %d may not", ok, none)
	}
}

// P9.4: Read of Bytes is the record.
func TestReadOfBytesIsTheRecord(t *testing.T) {
	for _, n := range mayBe() {
		b, err := logrec.Bytes(n.x)
		if err != api.OK {
			t.Errorf("%s: Bytes: error %d", n.name, err)
		}
		reads(t, n.name, b, n.x, len(b))
		x, _, _ := logrec.Read(b)
		if !logrec.Same(x, n.x) || !logrec.Same(n.x, x) {
			t.Errorf("%s: %s is not the same", n.name, tell(x))
		}
		if again, err := logrec.Bytes(x); err != api.OK || !bytes.Equal(again, b) {
			t.Errorf("%s: Bytes of what was read: error %d, %x, not %x", n.name, err, again, b)
		}
	}
}

// P9.4: no form is longer than MaxRec; the longest one is a point with all that it may have.
func TestTheLongestForm(t *testing.T) {
	longest := 0
	for _, n := range mayBe() {
		longest = max(longest, logrec.Size(n.x))
	}
	x := point(chains(16), dirts(64))
	b, err := logrec.Bytes(x)
	if err != api.OK || len(b) != most || longest != most || longest > api.MaxRec {
		t.Errorf("error %d, %d bytes, the longest of all has %d; not %d", err, len(b), longest, most)
	}
	reads(t, "the longest", b, x, most)
	reads(t, "the longest, more behind", join(b, make([]byte, 1<<20)), x, most)
	if n := logrec.Size(write(1, 0, text(500, 1), text(500, 2))); n != 1029 {
		t.Errorf("the longest write has %d", n)
	}
	if n := logrec.Size(end(1, 2, text(64, 1))); n != 109 {
		t.Errorf("the longest end has %d", n)
	}
}

// different is records that differ from x in one thing each: every field, every place of every list.
func different(x api.Rec) []named {
	var l []named
	add := func(name string, change func(y *api.Rec)) {
		y := clone(x)
		change(&y)
		l = append(l, named{name, y})
	}
	for bit := range 64 {
		n := uint64(1) << bit
		add("Lsn", func(y *api.Rec) { y.Lsn ^= n })
		add("Txn", func(y *api.Rec) { y.Txn ^= n })
		add("Prev", func(y *api.Rec) { y.Prev ^= n })
		add("Next", func(y *api.Rec) { y.Next ^= n })
		add("Stamp", func(y *api.Rec) { y.Stamp ^= n })
		add("Kind", func(y *api.Rec) { y.Kind ^= api.RecKind(n) })
		if bit < 32 {
			add("Epoch", func(y *api.Rec) { y.Epoch ^= uint32(n) })
			add("Page", func(y *api.Rec) { y.Page ^= uint32(n) })
		}
		if bit < 16 {
			add("Off", func(y *api.Rec) { y.Off ^= uint16(n) })
		}
		for i := range x.Open {
			add(fmt.Sprintf("Open %d, Txn", i), func(y *api.Rec) { y.Open[i].Txn ^= n })
			add(fmt.Sprintf("Open %d, First", i), func(y *api.Rec) { y.Open[i].First ^= n })
			add(fmt.Sprintf("Open %d, Last", i), func(y *api.Rec) { y.Open[i].Last ^= n })
		}
		for i := range x.Dirty {
			add(fmt.Sprintf("Dirty %d, Lsn", i), func(y *api.Rec) { y.Dirty[i].Lsn ^= n })
			if bit < 32 {
				add(fmt.Sprintf("Dirty %d, Page", i), func(y *api.Rec) { y.Dirty[i].Page ^= uint32(n) })
			}
		}
	}
	add("Clr", func(y *api.Rec) { y.Clr = !y.Clr })
	texts := []func(y *api.Rec) *[]byte{func(y *api.Rec) *[]byte { return &y.Old }, func(y *api.Rec) *[]byte { return &y.New }, func(y *api.Rec) *[]byte { return &y.Undo }}
	for k, of := range texts {
		name := []string{"Old", "New", "Undo"}[k]
		for i := range *of(&x) {
			add(fmt.Sprintf("%s, the byte %d", name, i), func(y *api.Rec) { (*of(y))[i] ^= 1 })
			add(fmt.Sprintf("%s, the byte %d's first bit", name, i), func(y *api.Rec) { (*of(y))[i] ^= 128 })
		}
		add(name+", a nought more", func(y *api.Rec) { *of(y) = append(*of(y), 0) })
		if n := len(*of(&x)); n > 0 {
			add(name+", one less", func(y *api.Rec) { *of(y) = (*of(y))[:n-1] })
			add(name+", without the first one", func(y *api.Rec) { *of(y) = (*of(y))[1:] })
			add(name+", none", func(y *api.Rec) { *of(y) = nil })
		}
	}
	add("Open, one more of noughts", func(y *api.Rec) { y.Open = append(y.Open, api.Chain{}) })
	add("Dirty, one more of noughts", func(y *api.Rec) { y.Dirty = append(y.Dirty, api.Dirt{}) })
	if n := len(x.Open); n > 0 {
		add("Open, one less", func(y *api.Rec) { y.Open = y.Open[:n-1] })
		add("Open, without the first one", func(y *api.Rec) { y.Open = y.Open[1:] })
		add("Open, none", func(y *api.Rec) { y.Open = nil })
	}
	if n := len(x.Dirty); n > 0 {
		add("Dirty, one less", func(y *api.Rec) { y.Dirty = y.Dirty[:n-1] })
		add("Dirty, without the first one", func(y *api.Rec) { y.Dirty = y.Dirty[1:] })
		add("Dirty, none", func(y *api.Rec) { y.Dirty = nil })
	}
	return l
}

// everything is a record that may not be: it has something in each field.
func everything(n int) api.Rec {
	return api.Rec{Kind: 99, Lsn: 1, Epoch: 2, Txn: 3, Page: 4, Off: 5, Old: text(n, 6), New: text(n+1, 7), Undo: text(n+2, 8), Prev: 9, Next: 10, Clr: true, Stamp: 11, Open: chains(n), Dirty: dirts(n + 1)}
}

// P9.3: records that differ in just one thing, for each field and every place of every list.
func TestSameTellsEachDifference(t *testing.T) {
	l := lists(plain(), smallest(), greatest())
	for _, n := range []int{0, 1, 2, 3, 16, 70} {
		l = append(l, named{fmt.Sprintf("all, with lists of %d", n), everything(n)})
	}
	l = append(l, named{"none", api.Rec{}}, named{"a write of 501", write(1, 600, text(501, 1), text(501, 2))})
	for _, n := range l {
		if y := clone(n.x); !logrec.Same(n.x, n.x) || !logrec.Same(n.x, y) || !logrec.Same(y, n.x) {
			t.Errorf("%s is not the same as itself", n.name)
		}
		for _, d := range different(n.x) {
			if logrec.Same(n.x, d.x) || logrec.Same(d.x, n.x) {
				t.Errorf("%s: another in %s is the same", n.name, d.name)
			}
			if y := clone(d.x); !logrec.Same(d.x, y) {
				t.Errorf("%s: another in %s is not the same as itself", n.name, d.name)
			}
		}
	}
}

// P9.3: none and an empty list are one, in each field, whatever the record is.
func TestSameOfEmptyLists(t *testing.T) {
	for _, n := range lists(plain(), smallest(), []named{{"none", api.Rec{}}, {"all", everything(0)}, {"all with some", everything(2)}}) {
		for _, f := range fields() {
			for i, set := range f.zero {
				for j, other := range f.zero {
					x, y := n.x, n.x
					set(&x)
					other(&y)
					if !logrec.Same(x, y) {
						t.Errorf("%s: %s empty in the ways %d and %d is not the same", n.name, f.name, i, j)
					}
				}
				for j, other := range f.other {
					x, y := n.x, n.x
					set(&x)
					other(&y)
					if logrec.Same(x, y) || logrec.Same(y, x) {
						t.Errorf("%s: %s, empty (%d) and not (%d), is the same", n.name, f.name, i, j)
					}
				}
			}
		}
	}
	nils := api.Rec{Kind: 77, Clr: true}
	empties := api.Rec{Kind: 77, Clr: true, Old: []byte{}, New: []byte{}, Undo: []byte{}, Open: []api.Chain{}, Dirty: []api.Dirt{}}
	if !logrec.Same(nils, empties) || !logrec.Same(empties, nils) {
		t.Error("nil and empty lists are not the same")
	}
}

// P9.3: of records that may be and that may not be, each held against each.
func TestSameIsTheWordsWay(t *testing.T) {
	l := lists(mayBe(), mayNotBe())
	for _, n := range l {
		for _, m := range l {
			if logrec.Same(n.x, m.x) != slowSame(n.x, m.x) {
				t.Errorf("%s and %s: %t", n.name, m.name, !slowSame(n.x, m.x))
			}
		}
	}
	swapped := func(x api.Rec, a, b []byte) api.Rec { x.Old, x.New = a, b; return x }
	x := write(1, 2, []byte("ab"), []byte("cd"))
	if logrec.Same(x, swapped(x, []byte("cd"), []byte("ab"))) {
		t.Error("Old and New may not be taken for each other")
	}
	if logrec.Same(point(chains(2), nil), point([]api.Chain{chains(2)[1], chains(2)[0]}, nil)) {
		t.Error("Open in another order is the same")
	}
	if logrec.Same(point(nil, dirts(2)), point(nil, []api.Dirt{dirts(2)[1], dirts(2)[0]})) {
		t.Error("Dirty in another order is the same")
	}
}

// Two records that are not the same have two forms, and those that are the same have one.
func TestFormsTellRecordsApart(t *testing.T) {
	forms := map[string]named{}
	for _, n := range mayBe() {
		b, _ := logrec.Bytes(n.x)
		if m, there := forms[string(b)]; there && !logrec.Same(m.x, n.x) {
			t.Errorf("%s and %s have one form", n.name, m.name)
		}
		forms[string(b)] = n
	}
	for _, n := range lists(plain(), smallest()) {
		b, _ := logrec.Bytes(n.x)
		for _, d := range different(n.x) {
			if c, err := logrec.Bytes(d.x); err == api.OK && bytes.Equal(b, c) {
				t.Errorf("%s: another in %s has the same form", n.name, d.name)
			}
		}
	}
}

// The errors: each call has one, and it is told whatever else is wrong with what is handed in.
func TestErrorsWhereSeveralApply(t *testing.T) {
	refused(t, "all at once", everything(70))
	x := everything(70)
	for k := range 7 {
		x.Kind = api.RecKind(k)
		refused(t, fmt.Sprintf("all at once, of the kind %d", k), x)
	}
	// A wrong sum, a wrong size, a kind that is none, texts that are too long: ErrBytes all the same.
	own := join(slowFixed(1, 4), slowFixed(600, 2), slowText(text(501, 1)), slowText(text(400, 1)), []byte{9})
	b := sealed(5, 52, 1, 1, own)
	for range 4 {
		unread(t, "all at once", b)
		unread(t, "all at once, with a right sum", resealed(b))
		b[18] += 7
	}
	// Layer 2's own error of a text that is too long is not this layer's.
	unread(t, "Old of 501", by(api.RecWrite, slowFixed(0, 6), slowText(text(501, 1)), slowText(text(501, 1))))
	unread(t, "Undo of 65", by(api.RecEnd, make([]byte, 25), slowText(text(65, 1))))
}

// roomy is bytes with room around them that has something: what is handed in, and all of it.
func roomy(b []byte) (part, all []byte) {
	all = join(rep(0xA5, 16), b, rep(0x5A, 700))
	return all[16 : 16+len(b)], all
}

// around is a record whose lists have room behind them that has something, and
// all of that memory.
type around struct {
	x                    api.Rec
	old, now, undo       []byte
	open                 []api.Chain
	dirty                []api.Dirt
	wasOld, wasNow, wasU []byte
	wasOpen              []api.Chain
	wasDirty             []api.Dirt
}

func roomyRec(x api.Rec) *around {
	a := &around{x: x}
	a.x.Old, a.old = roomy(x.Old)
	a.x.New, a.now = roomy(x.New)
	a.x.Undo, a.undo = roomy(x.Undo)
	a.open = slices.Concat(chains(3), x.Open, chains(20))
	a.dirty = slices.Concat(dirts(3), x.Dirty, dirts(70))
	a.x.Open, a.x.Dirty = a.open[3:3+len(x.Open)], a.dirty[3:3+len(x.Dirty)]
	a.keep()
	return a
}

func (a *around) keep() {
	a.wasOld, a.wasNow, a.wasU = bytes.Clone(a.old), bytes.Clone(a.now), bytes.Clone(a.undo)
	a.wasOpen, a.wasDirty = slices.Clone(a.open), slices.Clone(a.dirty)
}

// same tells whether all of the memory is as it was.
func (a *around) same() bool {
	return bytes.Equal(a.old, a.wasOld) && bytes.Equal(a.now, a.wasNow) && bytes.Equal(a.undo, a.wasU) && slices.Equal(a.open, a.wasOpen) && slices.Equal(a.dirty, a.wasDirty)
}

// spoil writes over all of it.
func (a *around) spoil() {
	for _, b := range [][]byte{a.old, a.now, a.undo} {
		copy(b, rep(0xEE, len(b)))
	}
	for i := range a.open {
		a.open[i] = api.Chain{Txn: max64, First: 1, Last: 2}
	}
	for i := range a.dirty {
		a.dirty[i] = api.Dirt{Page: max32, Lsn: 3}
	}
	a.keep()
}

// overwrite writes over all lists of a record that was answered, spare room behind them included.
func overwrite(x api.Rec) {
	for _, b := range [][]byte{x.Old, x.New, x.Undo} {
		b = b[:cap(b)]
		copy(b, rep(0xDD, len(b)))
	}
	open, dirty := x.Open[:cap(x.Open)], x.Dirty[:cap(x.Dirty)]
	for i := range open {
		open[i] = api.Chain{Txn: 0xDD, First: 0xDD, Last: 0xDD}
	}
	for i := range dirty {
		dirty[i] = api.Dirt{Page: 0xDD, Lsn: 0xDD}
	}
}

// P1: a record that is handed in stays as it was, spare room behind its lists
// included, and may be written over; a form is new memory.
func TestRecordsAreLeftAndFormsAreNew(t *testing.T) {
	for _, n := range lists(mayBe(), mayNotBe(), []named{{"all", everything(3)}}) {
		a := roomyRec(n.x)
		want := slowForm(n.x)
		one, err := logrec.Bytes(a.x)
		two, _ := logrec.Bytes(a.x)
		logrec.May(a.x)
		logrec.Size(a.x)
		logrec.Same(a.x, a.x)
		if !a.same() || !slowSame(a.x, n.x) {
			t.Errorf("%s: what was handed in is another now", n.name)
		}
		if err != api.OK {
			continue
		}
		two = two[:cap(two)]
		copy(two, rep(0xDD, len(two)))
		if !a.same() || !bytes.Equal(one, want) {
			t.Errorf("%s: a form shares memory with another, or with the record", n.name)
		}
		a.spoil()
		if !bytes.Equal(one, want) {
			t.Errorf("%s: the form shares memory with the record", n.name)
		}
		one = one[:cap(one)]
		copy(one, rep(0xDD, len(one)))
		if !a.same() {
			t.Errorf("%s: the record shares memory with the form", n.name)
		}
	}
}

// P1: bytes that are read stay, what is around them too, and may be written
// over; neither of two records that were answered touches the other, or the bytes.
func TestBytesAreLeftAndRecordsAreNew(t *testing.T) {
	for _, n := range mayBe() {
		form := slowForm(n.x)
		b, all := roomy(form)
		was := bytes.Clone(all)
		one, _, err := logrec.Read(b)
		two, _, _ := logrec.Read(b)
		three, _, _ := logrec.Read(all[16:])
		if err != api.OK || !bytes.Equal(all, was) {
			t.Errorf("%s: error %d, or the bytes are others now", n.name, err)
		}
		overwrite(two)
		if !bytes.Equal(all, was) || !slowSame(one, n.x) || !slowSame(three, n.x) {
			t.Errorf("%s: a record shares memory with another, or with the bytes", n.name)
		}
		copy(all, rep(0xEE, len(all)))
		if !slowSame(one, n.x) || !slowSame(three, n.x) {
			t.Errorf("%s: the record shares memory with the bytes", n.name)
		}
		overwrite(three)
		if !slowSame(one, n.x) || !bytes.Equal(all, rep(0xEE, len(all))) {
			t.Errorf("%s: the record shares memory", n.name)
		}
	}
	for _, n := range plain() {
		b, all := roomy(slowForm(n.x)[:20])
		was := bytes.Clone(all)
		if unread(t, n.name+", cut", b); !bytes.Equal(all, was) {
			t.Errorf("%s: the bytes are others now, where they are no form", n.name)
		}
	}
}

// P1: no two lists of one answer share memory.
func TestListsOfOneRecordAreTheirOwn(t *testing.T) {
	for _, n := range mayBe() {
		fresh := func() api.Rec {
			x, _, _ := logrec.Read(slowForm(n.x))
			return x
		}
		x := fresh()
		overwrite(api.Rec{Old: x.Old})
		if !bytes.Equal(x.New, n.x.New) {
			t.Errorf("%s: New shares memory with Old", n.name)
		}
		x = fresh()
		overwrite(api.Rec{New: x.New})
		if !bytes.Equal(x.Old, n.x.Old) {
			t.Errorf("%s: Old shares memory with New", n.name)
		}
		x = fresh()
		overwrite(api.Rec{Open: x.Open})
		if !slices.Equal(x.Dirty, n.x.Dirty) {
			t.Errorf("%s: Dirty shares memory with Open", n.name)
		}
	}
}

// Old and New may be one memory, handed in; so may all lists that a record has.
func TestListsHandedInMayBeOneMemory(t *testing.T) {
	b := text(300, 1)
	for _, x := range []api.Rec{write(1, 2, b[:200], b[:200]), write(1, 2, b[:200], b[100:300]), write(1, 2, b[100:300], b[:200])} {
		want := slowForm(clone(x))
		formed(t, tell(x), x, want)
		reads(t, tell(x), want, clone(x), len(want))
	}
	if !bytes.Equal(b, text(300, 1)) {
		t.Error("what was handed in is another now")
	}
}

// P1: what a call answers hangs on its arguments alone: calls ahead of it, refused or not, change nothing.
func TestCallsKnowNothingOfEachOther(t *testing.T) {
	r := rand.New(rand.NewSource(6))
	l, bad := mayBe(), mayNotBe()
	for range 3000 {
		n, m := l[r.Intn(len(l))], l[r.Intn(len(l))]
		form := slowForm(n.x)
		logrec.Bytes(bad[r.Intn(len(bad))].x)
		logrec.Read(form[:r.Intn(len(form))])
		logrec.Same(n.x, m.x)
		formed(t, n.name, n.x, form)
		logrec.Size(m.x)
		logrec.Read(slowForm(m.x))
		reads(t, n.name, form, n.x, len(form))
	}
}

// P1: two callers at one time, with the same things handed in, do not disturb each other.
func TestCallsAtOneTime(t *testing.T) {
	l := mayBe()
	var all sync.WaitGroup
	for range 8 {
		all.Add(1)
		go func() {
			defer all.Done()
			for _, n := range l {
				form := slowForm(n.x)
				if b, err := logrec.Bytes(n.x); err != api.OK || !bytes.Equal(b, form) {
					t.Errorf("%s: error %d, another form", n.name, err)
				}
				if x, size, err := logrec.Read(form); err != api.OK || size != len(form) || !logrec.Same(x, n.x) {
					t.Errorf("%s: error %d, another record", n.name, err)
				}
			}
		}()
	}
	all.Wait()
}
