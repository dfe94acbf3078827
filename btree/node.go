package btree

import (
	"cmp"
	"math"
	"slices"

	"vicinage/api"
	"vicinage/code"
	"vicinage/kernel"
	"vicinage/slots"
	"vicinage/space"
)

// The first byte of each of a tree's pages.
const (
	kindKeys  = 'K' // its pairs are keys, and their values
	kindPages = 'P' // its pairs are pages, each with a number that no key of it is below
)

const (
	full = api.MaxSlot / 16 // so many pairs go into a page's slot
	few  = full / 3         // so many a page has that is not the root: a page that was split, or shared out, has some more
)

// node is a page of a tree. All of them name the root as their next page; so just
// the root names itself.
type node struct {
	at, root  int
	kind      byte
	low, high uint64     // no key of it is below the one, or above the other
	list      []api.Pair // rising
	stood     []api.Pair // as they stand in the page
}

// opened is a tree's root.
func opened(k *kernel.Kernel, root int) (*node, api.Errno) {
	in, err := space.In(k, root)
	switch {
	case err == api.ErrArg || err == api.OK && (!in || root < space.Maps(k.Pages())):
		return nil, api.ErrNone
	case err != api.OK:
		return nil, err
	}
	n := &node{at: root, root: root, low: 0, high: math.MaxUint64}
	if err := n.read(k); err != api.OK {
		return nil, err
	}
	if n.kind == kindPages && len(n.list) < 2 {
		return nil, api.ErrNone
	}
	return n, api.OK
}

// child is the page of the pair i.
func (n *node) child(k *kernel.Kernel, i int) (*node, api.Errno) {
	c := &node{at: int(n.list[i].Val), root: n.root, low: n.list[i].Key, high: n.high}
	if i+1 < len(n.list) {
		c.high = n.list[i+1].Key - 1
	}
	if err := c.read(k); err != api.OK {
		return nil, err
	}
	if len(c.list) < few {
		return nil, api.ErrNone
	}
	return c, api.OK
}

// read reads a page's pairs; ErrNone, if it is no such page of the tree.
func (n *node) read(k *kernel.Kernel) api.Errno {
	body, err := k.Read(n.at)
	switch {
	case err == api.ErrArg:
		return api.ErrNone
	case err != api.OK:
		return err
	}
	held, err := slots.Read(body)
	if err != api.OK || int(held.Next) != n.root {
		return api.ErrNone
	}
	b, err := slots.Get(held, 0)
	if err != api.OK || len(b)%16 != 0 {
		return api.ErrNone
	}
	n.kind = held.Kind
	for r := code.NewReader(b); r.Left() > 0; {
		n.stood = append(n.stood, api.Pair{Key: r.U64(), Val: r.U64()})
	}
	n.list = slices.SortedFunc(slices.Values(n.stood), func(a, b api.Pair) int { return cmp.Compare(a.Key, b.Key) })
	if !n.may() {
		return api.ErrNone
	}
	return api.OK
}

// may tells whether the page may be where it was found. As the keys of a page of
// pages part what it has, no page that may be is under itself: all ways down end.
func (n *node) may() bool {
	for i, p := range n.list {
		if p.Key < n.low || p.Key > n.high || i > 0 && p.Key == n.list[i-1].Key {
			return false
		}
	}
	return n.kind == kindKeys || n.kind == kindPages
}

// search is where a key stands, or would stand, and whether it is there.
func (n *node) search(key uint64) (int, bool) { return search(n.list, key) }

// toward is the pair of a page of pages that has a key; the first one, if all are above it.
func (n *node) toward(key uint64) int {
	i, there := n.search(key)
	if there {
		return i
	}
	return max(i-1, 0)
}

// write writes the page.
func (n *node) write(k *kernel.Kernel) api.Errno {
	var b []byte
	for _, p := range laid(n.stood, n.list) {
		b = append(b, code.Put64(code.Put64(nil, p.Key), p.Val)...)
	}
	body, err := slots.Bytes(api.Slots{Kind: n.kind, Next: uint32(n.root), Full: []bool{true}, Data: [][]byte{b}})
	if err != api.OK {
		return err
	}
	return k.Write(n.at, body)
}

// search is where a key stands in a list, or would stand, and whether it is there.
func search(l []api.Pair, key uint64) (int, bool) {
	return slices.BinarySearchFunc(l, key, func(p api.Pair, key uint64) int { return cmp.Compare(p.Key, key) })
}

// laid is the pairs of now, each where it stood, if it did: so few bytes of the
// page change, and the log has room for many a write.
func laid(stood, now []api.Pair) []api.Pair {
	stood = stood[:min(len(stood), len(now))]
	rest := slices.DeleteFunc(slices.Clone(now), func(p api.Pair) bool {
		return slices.ContainsFunc(stood, func(s api.Pair) bool { return s.Key == p.Key })
	})
	l := make([]api.Pair, 0, len(now))
	for _, s := range stood {
		if i, there := search(now, s.Key); there {
			l = append(l, now[i])
		} else {
			l, rest = append(l, rest[0]), rest[1:]
		}
	}
	return append(l, rest...)
}
