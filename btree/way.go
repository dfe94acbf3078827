package btree

import (
	"slices"

	"vicinage/api"
	"vicinage/kernel"
	"vicinage/space"
)

// way is a tree's pages from its root down to the one where a key stands, or would stand.
type way struct {
	key   uint64
	pages []*node
}

// find is the way to a key.
func find(k *kernel.Kernel, root int, key uint64) (way, api.Errno) {
	n, err := opened(k, root)
	if err != api.OK {
		return way{}, err
	}
	w := way{key, []*node{n}}
	for n.kind == kindPages {
		n, err = n.child(k, n.toward(key))
		if err != api.OK {
			return way{}, err
		}
		w.pages = append(w.pages, n)
	}
	return w, api.OK
}

// last is the last page of a way.
func (w way) last() *node { return w.pages[len(w.pages)-1] }

// up is the way without its last page.
func (w way) up() way { return way{w.key, w.pages[:len(w.pages)-1]} }

// grown writes the last page, which may have a pair too many: then it is split, and
// the page above it has one more.
func (w way) grown(k *kernel.Kernel) api.Errno {
	n := w.last()
	switch {
	case len(n.list) <= full:
		return n.write(k)
	case n.at == n.root:
		return n.deepened(k)
	}
	half := len(n.list) / 2
	more, err := n.part(k, n.list[half:])
	if err != api.OK {
		return err
	}
	n.list = n.list[:half]
	if err := n.write(k); err != api.OK {
		return err
	}
	w = w.up()
	p := w.last()
	p.list = slices.Insert(p.list, p.toward(w.key)+1, more)
	return w.grown(k)
}

// deepened writes a root that has a pair too many: what it has goes into two new
// pages, since the root is to stay where it is.
func (n *node) deepened(k *kernel.Kernel) api.Errno {
	half := len(n.list) / 2
	lower, err := n.part(k, n.list[:half])
	if err != api.OK {
		return err
	}
	upper, err := n.part(k, n.list[half:])
	if err != api.OK {
		return err
	}
	lower.Key = n.low
	n.kind, n.list = kindPages, []api.Pair{lower, upper}
	return n.write(k)
}

// part writes some of a page's pairs into a new page, and tells the pair that the
// page above has for it.
func (n *node) part(k *kernel.Kernel, list []api.Pair) (api.Pair, api.Errno) {
	at, err := space.Alloc(k)
	if err != api.OK {
		return api.Pair{}, err
	}
	x := &node{at: at, root: n.root, kind: n.kind, list: list}
	return api.Pair{Key: list[0].Key, Val: uint64(at)}, x.write(k)
}

// shrunk writes the last page, which may have a pair too few: then it and one beside
// it share what both have, or become one.
func (w way) shrunk(k *kernel.Kernel) api.Errno {
	n := w.last()
	if n.at == n.root || len(n.list) >= few {
		return n.write(k)
	}
	w = w.up()
	p := w.last()
	i := p.toward(w.key)
	// The one ahead of it; the first page has none there.
	other := i - 1
	if i == 0 {
		other = 1
	}
	o, err := p.child(k, other)
	switch {
	case err != api.OK:
		return err
	case i == 0:
		return w.even(k, n, o, 1)
	}
	return w.even(k, o, n, i)
}

// even lets two pages share what both have, or makes them one: the last page's child
// that is the upper one's, and the one ahead of it.
func (w way) even(k *kernel.Kernel, lower, upper *node, i int) api.Errno {
	p := w.last()
	list := slices.Concat(lower.list, upper.list)
	half := len(list) / 2
	switch {
	case len(list) > full:
		lower.list, upper.list = list[:half], list[half:]
		p.list[i].Key = list[half].Key
		return settle(k, nil, lower, upper, p)
	case p.at == p.root && len(p.list) == 2:
		p.kind, p.list = lower.kind, list
		return settle(k, []*node{lower, upper}, p)
	}
	lower.list = list
	if err := settle(k, []*node{upper}, lower); err != api.OK {
		return err
	}
	p.list = slices.Delete(p.list, i, i+1)
	return w.shrunk(k)
}

// settle gives pages back, and writes others.
func settle(k *kernel.Kernel, back []*node, kept ...*node) api.Errno {
	for _, n := range back {
		if err := space.Free(k, n.at); err != api.OK {
			return err
		}
	}
	for _, n := range kept {
		if err := n.write(k); err != api.OK {
			return err
		}
	}
	return api.OK
}
