package heap

import (
	"cmp"
	"slices"

	"vicinage/api"
	"vicinage/code"
	"vicinage/kernel"
	"vicinage/slots"
	"vicinage/space"
)

const (
	entry  = 2 // bytes that a slot takes beside its own
	remark = 6 // bytes that a remembered page takes in the root
)

// home is a heap's root: where there is room.
type home struct {
	at   int
	list []spare
}

// spare is a page whose room is remembered.
type spare struct{ page, room int }

// opened is the heap with a root, where something may be written.
func opened(k *kernel.Kernel, root int) (home, api.Errno) {
	if err := acting(k); err != api.OK {
		return home{}, err
	}
	p, err := read(k, root, kindHome)
	if err != api.OK {
		return home{}, err
	}
	list, err := slots.Get(p.held, 0)
	if err != api.OK || len(list) > api.MaxSpare*remark {
		return home{}, api.ErrNone
	}
	h := home{at: root}
	r := code.NewReader(list)
	for r.Left() > 0 && r.Err() == api.OK {
		h.list = append(h.list, spare{page: int(r.U32()), room: int(r.U16())})
	}
	if r.Err() != api.OK {
		return home{}, api.ErrNone
	}
	return h, api.OK
}

// write writes the root.
func (h *home) write(k *kernel.Kernel) api.Errno {
	var list []byte
	for _, s := range h.list {
		list = code.Put16(code.Put32(list, uint32(s.page)), uint16(s.room))
	}
	p := sheet{at: h.at, held: api.Slots{Kind: kindHome, Full: []bool{true}, Data: [][]byte{list}}}
	return p.write(k)
}

// roomy is a page with so much room: one that is remembered, else a new one.
func (h *home) roomy(k *kernel.Kernel, room int) (sheet, api.Errno) {
	i := slices.IndexFunc(h.list, func(s spare) bool { return s.room >= room })
	if i >= 0 {
		return read(k, h.list[i].page, kindThings)
	}
	n, err := space.Alloc(k)
	if err != api.OK {
		return sheet{}, err
	}
	return sheet{at: n, held: api.Slots{Kind: kindThings, Next: uint32(h.at)}}, api.OK
}

// remember keeps in mind how much room a page has; where too many have some, the
// one with the least is forgotten.
func (h *home) remember(page, room int) {
	i := h.place(page)
	switch {
	case i >= 0:
		h.list[i].room = room
	case len(h.list) < api.MaxSpare:
		h.list = append(h.list, spare{page, room})
	default:
		fewest := slices.MinFunc(h.list, func(a, b spare) int { return cmp.Compare(a.room, b.room) })
		if fewest.room < room {
			h.list[h.place(fewest.page)] = spare{page, room}
		}
	}
}

// forget takes a page out of the list. The last one goes into its place, so that
// few of the root's bytes change.
func (h *home) forget(page int) {
	if i := h.place(page); i >= 0 {
		last := len(h.list) - 1
		h.list[i] = h.list[last]
		h.list = h.list[:last]
	}
}

// place is where a page stands in the list; -1, if it does not.
func (h *home) place(page int) int {
	return slices.IndexFunc(h.list, func(s spare) bool { return s.page == page })
}

// drop takes a thing out of its slot; a page in which nothing stands any more is
// given back.
func (h *home) drop(k *kernel.Kernel, s stand) api.Errno {
	held, err := slots.Delete(s.held, s.slot)
	if err != api.OK {
		return err
	}
	s.held = held
	if len(held.Full) == 0 {
		err = space.Free(k, s.at)
		h.forget(s.at)
	} else {
		err = s.write(k)
		h.remember(s.at, slots.Room(held))
	}
	if err != api.OK {
		return err
	}
	return h.write(k)
}
