package heap

import (
	"slices"

	"vicinage/api"
	"vicinage/code"
	"vicinage/kernel"
	"vicinage/slots"
	"vicinage/space"
)

// The first byte of each of a heap's pages.
const (
	kindHome   = 'H' // the root
	kindThings = 'T' // things' first bytes, in slots; its Next is the root
	kindRest   = 'R' // a part of one thing's rest, and the page with the next part
)

const (
	near = 180             // so many of a thing's first bytes stand in its slot: two such slots go into a page
	head = 5               // bytes ahead of a part of the rest: the kind, the next page
	far  = api.Body - head // so many of the rest stand in each page
)

// sheet is a slotted page.
type sheet struct {
	at   int
	held api.Slots
}

// read is a slotted page in use that is of a kind; ErrNone, if there is none.
func read(k *kernel.Kernel, n int, kind byte) (sheet, api.Errno) {
	in, err := space.In(k, n)
	switch {
	case err == api.ErrArg || err == api.OK && (!in || n < space.Maps(k.Pages())):
		return sheet{}, api.ErrNone
	case err != api.OK:
		return sheet{}, err
	}
	b, err := k.Read(n)
	if err != api.OK {
		return sheet{}, err
	}
	held, err := slots.Read(b)
	if err != api.OK || held.Kind != kind {
		return sheet{}, api.ErrNone
	}
	return sheet{n, held}, api.OK
}

// write writes the page.
func (p sheet) write(k *kernel.Kernel) api.Errno {
	b, err := slots.Bytes(p.held)
	if err != api.OK {
		return err
	}
	return k.Write(p.at, b)
}

// thing is how many bytes a thing has, the first of them, and the page with which
// the chain of the rest begins, if there is one.
type thing struct {
	size, rest int
	first      []byte
}

// form is what stands in a thing's slot.
func (x thing) form() []byte {
	b := code.Put16(nil, uint16(x.size))
	if x.size > near {
		b = code.Put32(b, uint32(x.rest))
	}
	return append(b, x.first...)
}

// formed is the thing of a form, and whether there is one.
func formed(b []byte) (thing, bool) {
	r := code.NewReader(b)
	x := thing{size: int(r.U16())}
	if x.size > near {
		x.rest = int(r.U32())
	}
	x.first = b[len(b)-r.Left():]
	return x, r.Err() == api.OK && len(x.first) == min(x.size, near)
}

// stand is a thing, and the slot of the page in which it stands.
type stand struct {
	sheet
	slot int
	thing
}

// find is the thing with an id, which is its page's number and its slot's.
func find(k *kernel.Kernel, id uint64) (stand, api.Errno) {
	p, err := read(k, int(id>>8), kindThings)
	if err != api.OK {
		return stand{}, err
	}
	slot := int(id & 0xFF)
	b, err := slots.Get(p.held, slot)
	if err != api.OK {
		return stand{}, api.ErrNone
	}
	x, ok := formed(b)
	if !ok {
		return stand{}, api.ErrNone
	}
	return stand{p, slot, x}, api.OK
}

// follow goes along the chain of a thing's rest, with each page and what of the
// thing stands there. It ends at the thing's length.
func (x thing) follow(k *kernel.Kernel, do func(n int, part []byte)) api.Errno {
	n := x.rest
	for left := x.size - len(x.first); left > 0; {
		b, err := k.Read(n)
		if err == api.ErrArg || err == api.OK && b[0] != kindRest {
			return api.ErrNone
		}
		if err != api.OK {
			return err
		}
		part := b[head:][:min(left, far)]
		do(n, part)
		n, left = int(code.NewReader(b[1:head]).U32()), left-len(part)
	}
	return api.OK
}

// lay writes a thing's rest into pages of its own, the last part first, so that
// each page is written with the next one's number; it tells the first of them.
func lay(k *kernel.Kernel, rest []byte) (int, api.Errno) {
	next := 0
	for _, part := range slices.Backward(slices.Collect(slices.Chunk(rest, far))) {
		n, err := space.Alloc(k)
		if err != api.OK {
			return 0, err
		}
		b := make([]byte, api.Body)
		copy(b, code.Put32([]byte{kindRest}, uint32(next)))
		copy(b[head:], part)
		if err := k.Write(n, b); err != api.OK {
			return 0, err
		}
		next = n
	}
	return next, api.OK
}
