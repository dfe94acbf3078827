package heap_test

import (
	"bytes"
	"fmt"
	"math"
	"math/rand"
	"slices"
	"testing"

	"vicinage/api"
	"vicinage/disk"
	"vicinage/heap"
	"vicinage/kernel"
	"vicinage/slots"
	"vicinage/space"
)

// sizes is how long things are at the chapter's edges, and at those of pages.
var sizes = []int{0, 1, 2, 63, 64, 65, 66, 179, 180, 181, 182, 255, 256, 488, 489, 490, 492, 493, 494, 495, 496, 500, 501, 512, 672, 673, 674, 675, 676, 1166, 1167, 1169, 1171, 5000, 17699, 17700}

// P14.1: where one page is left, and where none is.
func TestMake(t *testing.T) {
	for _, pages := range []int{1, 2, 3, 9, 40} {
		g := rigged(t, roomy(pages, 2))
		for n := range pages - 1 {
			g.begin()
			root := g.make()
			if root == 0 {
				g.fatal("no heap, the %dth time", n)
			}
			g.agrees()
			g.end()
			g.agrees()
		}
		for range 2 {
			g.begin()
			if g.make(); g.act != nil {
				g.fatal("one more heap")
			}
			g.agrees()
		}
	}
}

// P14.1: a new heap has nothing, and takes things.
func TestMakeEmpty(t *testing.T) {
	g := rigged(t, roomy(12, 2))
	g.begin()
	// Pages that were another's, and have its bytes yet.
	var l []int
	for range 11 {
		l = append(l, g.takes(g.fresh(500)))
	}
	for _, n := range l {
		g.gives("Free", space.Free(g.k, n), api.OK)
		g.now().owner[n] = nobodys
	}
	g.now().pages = g.stands()
	a, b := g.make(), g.make()
	g.agrees()
	for id := uint64(256); id < 12*256; id += 3 {
		g.remove(a, id)
		g.remove(b, id)
	}
	g.insert(b, "ab")
	g.agrees()
	g.insert(a, "")
	g.agrees()
	g.end()
	g.agrees()
}

// P14.2: things of all lengths, one by one and beside each other.
func TestInsert(t *testing.T) {
	for _, frames := range []int{1, 3} {
		g, roots := withHeaps(t, roomy(300, frames), 1)
		for _, size := range sizes {
			g.begin()
			id := g.insert(roots[0], g.fresh(size))
			g.read(id)
			g.end()
			g.agrees()
			g.begin()
			g.remove(roots[0], id)
			g.read(id)
			if g.now().has(roots[0]) != 1 {
				g.fatal("%d bytes that are gone: %d pages", size, g.now().has(roots[0]))
			}
			g.end()
			g.tidy()
		}
		for _, size := range sizes {
			g.begin()
			g.insert(roots[0], g.fresh(size))
			g.agrees()
			g.end()
		}
		g.tidy()
		for _, size := range []int{17701, 17702, 20000, 1 << 16, 1<<16 + 3, 1 << 20} {
			g.begin()
			g.insert(roots[0], g.fresh(size))
			g.end()
		}
		g.agrees()
		if n := len(g.now().things); n != len(sizes) {
			g.fatal("%d things", n)
		}
	}
}

// P14.2: each length up to beyond the third page.
func TestLengths(t *testing.T) {
	t.Parallel()
	g, roots := withHeaps(t, roomy(20, 4), 1)
	b := g.fresh(1300)
	for n := range b {
		if g.room() < 20000 {
			g.tidy()
		}
		g.begin()
		id := g.insert(roots[0], b[:n])
		g.read(id)
		other := g.insert(roots[0], "x"+b[n:])
		g.read(id)
		g.read(other)
		if n%2 == 0 {
			g.cancel()
			continue
		}
		g.end()
		g.begin()
		g.remove(roots[0], id)
		g.read(other)
		g.remove(roots[0], other)
		g.end()
	}
	g.agrees()
}

// P14.2: bytes that are all noughts, or all ones, or look like a page of the heap.
func TestBytes(t *testing.T) {
	g, roots := withHeaps(t, roomy(400, 2), 1)
	g.begin()
	for _, size := range sizes[:len(sizes)-2] {
		g.insert(roots[0], string(make([]byte, size)))
		g.insert(roots[0], string(bytes.Repeat([]byte{255}, size)))
	}
	for n := range 120 {
		if g.now().owner[n] == roots[0] {
			g.insert(roots[0], g.now().pages[n])
		}
		if n%20 == 0 {
			g.end()
			g.tidy()
			g.begin()
		}
	}
	g.agrees()
	g.end()
}

// noRoots is pages that are no heap's roots.
func noRoots(g *rig, root int) []int {
	l := []int{math.MinInt, math.MinInt32, -256, -2, -1, 0, g.c.Pages, g.c.Pages + 1, 4000, 12000, 1 << 24, 1 << 32, 1<<32 + root, 1<<56 + root, math.MaxInt}
	for n, o := range g.now().owner {
		if o != n || n == 0 {
			l = append(l, n)
		}
	}
	return l
}

// P14.2: with a page that is no heap's root nothing is put in, or taken out.
func TestNoHeap(t *testing.T) {
	g, roots := withHeaps(t, roomy(40, 3), 2)
	g.begin()
	var ids []uint64
	for _, root := range roots {
		for _, size := range []int{0, 5, 181, 700, 3000} {
			ids = append(ids, g.insert(root, g.fresh(size)))
		}
	}
	g.takes(string(make([]byte, 500)))
	g.takes(g.fresh(500))
	for kind := range 8 {
		b, _ := slots.Bytes(api.Slots{Kind: byte(kind), Next: uint32(roots[0]), Full: []bool{true}, Data: [][]byte{{2, 0, 7, 7}}})
		g.takes(string(b))
	}
	for _, n := range noRoots(g, roots[0]) {
		for _, size := range []int{0, 3, 1000, 17701} {
			g.insert(n, g.fresh(size))
		}
		for _, id := range ids {
			g.remove(n, id)
		}
		g.remove(n, uint64(roots[0])<<8)
		g.remove(n, 0)
	}
	g.agrees()
	g.end()
	// A root that was given back from without is none any more.
	g.begin()
	g.gives("Free", space.Free(g.k, roots[1]), api.OK)
	left := g.k.Left()
	if id, err := heap.Insert(g.k, roots[1], nil); id != 0 || err != api.ErrNone {
		g.fatal("Insert where the root is not in use: %#x, %d", id, err)
	}
	if err := heap.Delete(g.k, roots[1], ids[5]); err != api.ErrNone {
		g.fatal("Delete where the root is not in use: %d", err)
	}
	if g.k.Left() != left {
		g.fatal("something was written")
	}
	g.cancel()
	g.agrees()
}

// P14.2: a page of the map is no heap's, whatever bits it has.
func TestMapsPage(t *testing.T) {
	g, roots := withHeaps(t, roomy(4100, 2), 1)
	g.begin()
	id := g.insert(roots[0], "")
	for _, like := range []int{roots[0], int(id >> 8)} {
		b, err := g.k.Read(like)
		g.gives("the kernel's Read", err, api.OK)
		g.gives("Write", g.k.Write(1, b), api.OK)
		if id, err := heap.Insert(g.k, 1, nil); id != 0 || err != api.ErrNone {
			g.fatal("Insert with the map's page: %#x, %d", id, err)
		}
		if b, err := heap.Read(g.k, 256|id&0xFF); len(b) > 0 || err != api.ErrNone {
			g.fatal("Read in the map's page: %x, %d", b, err)
		}
	}
}

// P14.2: where pages are too few ErrFull, and behind the cancel all is as it was.
func TestPagesFull(t *testing.T) {
	for free := range 6 {
		for _, size := range []int{0, 180, 181, 493, 673, 674, 676, 1166, 1167, 1171, 1700, 2200, 17700} {
			for _, ahead := range []int{-1, 0, 100, 400} {
				g, roots := withHeaps(t, roomy(10, 2), 1)
				g.begin()
				if ahead >= 0 {
					g.insert(roots[0], g.fresh(ahead))
				}
				for g.now().has(nobodys) > free {
					g.takes(g.fresh(500))
				}
				g.end()
				g.begin()
				id := g.insert(roots[0], g.fresh(size))
				switch {
				case id == 0 && mostFor(size) <= free:
					g.fatal("%d bytes with %d pages free: ErrFull", size, free)
				case id != 0 && (size+499)/500-1 > free:
					g.fatal("%d bytes with %d pages free", size, free)
				case id != 0:
					g.end()
				}
				g.agrees()
			}
		}
	}
}

// P14.2: till nothing goes in any more, and out again.
func TestFillAndEmpty(t *testing.T) {
	t.Parallel()
	for _, size := range []int{0, 1, 20, 180, 240, 600} {
		g, roots := withHeaps(t, roomy(8, 2), 1)
		for range 10000 {
			if g.room() < 20000 {
				g.tidy()
			}
			g.begin()
			if g.insert(roots[0], g.fresh(size)) == 0 {
				break
			}
			g.end()
		}
		if g.act != nil || g.now().has(nobodys) > mostFor(size)-1 {
			g.fatal("it is not full")
		}
		g.agrees()
		g.tidy()
		g.empties(roots[0], rand.New(rand.NewSource(int64(size))))
	}
}

// empties takes all things out of a heap, in a drawn order.
func (g *rig) empties(root int, r *rand.Rand) {
	g.t.Helper()
	ids := g.now().of(root)
	for i, j := range r.Perm(len(ids)) {
		if g.room() < 100000 {
			g.tidy()
		}
		g.begin()
		g.remove(root, ids[j])
		g.end()
		if i%20 == 0 || len(ids)-i < 5 {
			g.agrees()
		}
	}
	g.agrees()
	if n := g.now().has(root); n != 1 {
		g.fatal("the heap %d, which is empty, has %d pages", root, n)
	}
}

// P14.2: the ids: never that of another thing that is there, above 255, below 2^48,
// in the last of the pages, too.
func TestIds(t *testing.T) {
	g, roots := withHeaps(t, roomy(12000, 4), 2)
	// All pages but some few last ones are taken, by the map itself.
	g.begin()
	for i := range 3 {
		b := bytes.Repeat([]byte{255}, 500)
		if i == 2 {
			b[499] = 0x0F
		}
		g.gives("Write", g.k.Write(i, b), api.OK)
	}
	var ids []uint64
	for range 200 {
		id, err := heap.Insert(g.k, roots[0], []byte("abcd"))
		g.gives("Insert", err, api.OK)
		if id < 256 || id >= 1<<48 || slices.Contains(ids, id) {
			g.fatal("the id %#x", id)
		}
		ids = append(ids, id)
	}
	for _, id := range ids {
		if b, err := heap.Read(g.k, id); string(b) != "abcd" || err != api.OK {
			g.fatal("Read of %#x: %q, %d", id, b, err)
		}
	}
	for _, id := range ids {
		g.gives("Delete", heap.Delete(g.k, roots[0], id), api.OK)
	}
}

// P14.2: of ids that were never told nothing is there; up to 255 none ever is.
func TestNeverTold(t *testing.T) {
	g, roots := withHeaps(t, roomy(30, 2), 2)
	g.begin()
	g.takes(g.fresh(500))
	for i, size := range []int{3, 64, 300, 1700, 0, 9, 250} {
		g.insert(roots[i%2], g.fresh(size))
	}
	g.takes(g.fresh(500))
	g.end()
	g.begin()
	for id := range uint64(256) {
		g.read(id)
		g.patch(id, 0, "")
		g.patch(id, 0, "a")
		g.remove(roots[0], id)
	}
	// Of all others that nothing panics, and that no other thing is changed.
	left := g.k.Left()
	var l []uint64
	for id := uint64(256); id < 256*32; id++ {
		l = append(l, id)
	}
	for shift := 13; shift < 64; shift++ {
		l = append(l, 1<<shift, 1<<shift-1, 1<<shift|uint64(roots[0])<<8)
		for _, id := range g.now().ids() {
			l = append(l, 1<<shift|id)
		}
	}
	for _, id := range append(l, math.MaxUint64, math.MaxInt64, 1<<48, 1<<48+256) {
		if _, is := g.now().things[id]; is {
			g.read(id)
			continue
		}
		b, err := heap.Read(g.k, id)
		if err != api.ErrNone || len(b) > 0 {
			g.fatal("Read of %#x: %x, %d", id, b, err)
		}
		if err := heap.Patch(g.k, id, 0, []byte("a")); err != api.ErrNone {
			g.fatal("Patch of %#x: %d", id, err)
		}
		if err := heap.Delete(g.k, roots[0], id); err != api.ErrNone {
			g.fatal("Delete of %#x: %d", id, err)
		}
	}
	g.unchanged("what is not there", left)
	g.agrees()
}

// forged writes a slotted page of a heap's kind by the kernel alone, with a slot for each text.
func (g *rig) forged(n int, like int, slot ...string) {
	g.t.Helper()
	b, err := g.k.Read(like)
	g.gives("the kernel's Read", err, api.OK)
	s, err := slots.Read(b)
	g.gives("slots.Read", err, api.OK)
	s.Full, s.Data = nil, nil
	for _, x := range slot {
		s, _, err = slots.Insert(s, []byte(x))
		g.gives("slots.Insert", err, api.OK)
	}
	b, err = slots.Bytes(s)
	g.gives("slots.Bytes", err, api.OK)
	g.gives("Write", g.k.Write(n, b), api.OK)
}

// P14.2, P1: pages that look like a heap's, in which nothing is right: all calls end, and none panics.
func TestForged(t *testing.T) {
	g, roots := withHeaps(t, roomy(30, 2), 1)
	g.begin()
	id := g.insert(roots[0], g.fresh(1000))
	last := g.now().pages
	var chain int
	for n, b := range last {
		if g.now().owner[n] == roots[0] && n != roots[0] && n != int(id>>8) && b[1] == 0 {
			chain = n
		}
	}
	things := g.takes(g.fresh(500))
	root := g.takes(g.fresh(500))
	long := func(size, next int) string {
		return string([]byte{byte(size), byte(size >> 8), byte(next), byte(next >> 8), byte(next >> 16), byte(next >> 24)}) + g.fresh(180)
	}
	for _, x := range []string{"", "\x01", "\x05\x00", "\x05\x00abcd", "\x05\x00abcdef", long(181, 0)[:185], long(181, 0) + "x", long(17701, chain), long(65535, chain), long(180, 0), long(5000, chain), long(181, 0), long(181, 29), long(181, 30), long(181, 1<<31), long(181, 1<<32-1), long(181, things), long(17700, roots[0])} {
		g.forged(things, int(id>>8), x)
		forged := uint64(things) << 8
		if b, err := heap.Read(g.k, forged); err != api.ErrNone || len(b) > 0 {
			g.fatal("Read of %x: %d bytes, %d", x, len(b), err)
		}
		left := g.k.Left()
		if err := heap.Delete(g.k, roots[0], forged); err != api.ErrNone || g.k.Left() != left {
			g.fatal("Delete of %x: %d", x, err)
		}
		heap.Patch(g.k, forged, 0, []byte("a"))
	}
	// A chain that goes round ends at the thing's length.
	b := []byte(last[chain])
	copy(b[1:], []byte{byte(chain), byte(chain >> 8), 0, 0})
	g.gives("Write", g.k.Write(chain, b), api.OK)
	g.forged(things, int(id>>8), long(17700, chain))
	if b, err := heap.Read(g.k, uint64(things)<<8); len(b) != 17700 || err != api.OK {
		g.fatal("Read along a chain that goes round: %d bytes, %d", len(b), err)
	}
	heap.Delete(g.k, roots[0], uint64(things)<<8)
	// Roots: no list, one that is cut off, one that is too long, pages that have no such room.
	for _, x := range [][]string{{}, {"abcde"}, {"\x02\x00\x00\x00\x00\x01ab"}, {g.fresh(6 * 17)}, {string(make([]byte, 6*17))}} {
		g.forged(root, roots[0], x...)
		left := g.k.Left()
		if id, err := heap.Insert(g.k, root, []byte("abc")); id != 0 || err != api.ErrNone || g.k.Left() != left {
			g.fatal("Insert, the list %x: %#x, %d", x, id, err)
		}
		if err := heap.Delete(g.k, root, id); err != api.ErrNone || g.k.Left() != left {
			g.fatal("Delete, the list %x: %d", x, err)
		}
	}
	for _, page := range []int{0, chain, root, roots[0], 29, 30, 1 << 20} {
		g.forged(root, roots[0], string([]byte{byte(page), byte(page >> 8), byte(page >> 16), 0, 255, 1}))
		left := g.k.Left()
		if id, err := heap.Insert(g.k, root, []byte(g.fresh(300))); id != 0 || err != api.ErrNone || g.k.Left() != left {
			g.fatal("Insert, the page %d in the list: %#x, %d", page, id, err)
		}
	}
	g.forged(things, int(id>>8), g.fresh(480))
	g.forged(root, roots[0], string([]byte{byte(things), 0, 0, 0, 255, 1}))
	heap.Insert(g.k, root, []byte(g.fresh(300)))
}

// P14.2: an id that was deleted is none, whatever its page became.
func TestDeleted(t *testing.T) {
	g, roots := withHeaps(t, roomy(30, 3), 1)
	fill := func() {
		for i := range 12 {
			g.insert(roots[0], g.fresh(sizes[i*2]))
		}
	}
	empty := func() {
		for _, id := range g.now().of(roots[0]) {
			g.remove(roots[0], id)
			g.remove(roots[0], id)
			g.read(id)
			g.patch(id, 0, "")
		}
	}
	g.begin()
	fill()
	empty()
	g.agrees()
	g.insert(roots[0], g.fresh(10000)) // pages of a chain
	g.agrees()
	empty()
	for range 3 {
		g.make() // other heaps' roots
	}
	g.agrees()
	for g.takes(g.fresh(500)) > 0 {
	}
	g.agrees()
	g.end()
	g.agrees()
}

// P14.2: a thing stands in a page with others: it goes alone.
func TestDelete(t *testing.T) {
	g, roots := withHeaps(t, roomy(60, 3), 3)
	r := rand.New(rand.NewSource(14))
	for round := range 4 {
		g.begin()
		for i := range 20 {
			g.insert(roots[i%2], g.fresh(sizes[r.Intn(len(sizes)-6)]))
		}
		g.end()
		g.tidy()
		g.begin()
		for _, root := range roots {
			ids := g.now().of(root)
			for i, id := range ids {
				if i%3 == round%3 {
					g.remove(root, id)
					g.agrees()
					g.remove(root, id)
				}
			}
		}
		g.end()
		g.tidy()
	}
	for _, root := range roots {
		g.empties(root, r)
	}
	if n := g.c.Pages - g.now().has(nobodys); n != 4 {
		g.fatal("%d pages are in use", n)
	}
}

// P14.2: with another heap's root nothing is promised but that nothing panics; that
// heap has what it had.
func TestOthersRoot(t *testing.T) {
	g, roots := withHeaps(t, roomy(40, 3), 2)
	g.begin()
	a, b := g.insert(roots[0], g.fresh(700)), g.insert(roots[1], g.fresh(900))
	g.end()
	for _, x := range []struct {
		root int
		id   uint64
	}{{roots[1], a}, {roots[0], b}} {
		g.begin()
		// It is not promised, but no harm is done: there is no such thing in that heap.
		left := g.k.Left()
		if err := heap.Delete(g.k, x.root, x.id); err != api.ErrNone {
			g.fatal("Delete with another heap's root: %d", err)
		}
		g.unchanged("Delete with another heap's root", left)
		g.agrees()
		g.cancel()
	}
}

// P14.2: what is handed in is not changed and not kept, and what is answered is new.
func TestOwnMemory(t *testing.T) {
	g, roots := withHeaps(t, roomy(80, 4), 1)
	g.begin()
	for _, size := range []int{1, 64, 180, 181, 495, 1000, 17700} {
		b := []byte(g.fresh(size + 30))
		was := bytes.Clone(b)
		id, err := heap.Insert(g.k, roots[0], b[:size])
		g.gives("Insert", err, api.OK)
		if !bytes.Equal(b, was) {
			g.fatal("Insert has changed what it was handed")
		}
		clear(b)
		one, err := heap.Read(g.k, id)
		g.gives("Read", err, api.OK)
		if !bytes.Equal(one, was[:size]) {
			g.fatal("Read: what was handed in was kept")
		}
		clear(one[:cap(one)])
		two, _ := heap.Read(g.k, id)
		if !bytes.Equal(two, was[:size]) {
			g.fatal("Read: what was answered was kept")
		}
		n := min(size, 20)
		b = []byte(g.fresh(n + 7))
		was2 := bytes.Clone(b)
		g.gives("Patch", heap.Patch(g.k, id, 0, b[:n]), api.OK)
		if !bytes.Equal(b, was2) {
			g.fatal("Patch has changed what it was handed")
		}
		clear(b)
		copy(was, was2[:n])
		if two, _ = heap.Read(g.k, id); !bytes.Equal(two, was[:size]) {
			g.fatal("Patch: what was handed in was kept")
		}
	}
}

// P14.3: at all edges of a thing and of its head.
func TestPatch(t *testing.T) {
	for _, size := range []int{0, 1, 2, 3, 63, 64, 65, 66, 180, 181, 500, 2000} {
		t.Run(fmt.Sprint(size), func(t *testing.T) {
			t.Parallel()
			g, roots := withHeaps(t, roomy(20, 3), 1)
			g.begin()
			g.insert(roots[0], g.fresh(40))
			id := g.insert(roots[0], g.fresh(size))
			g.insert(roots[0], g.fresh(50))
			end := min(size, 64)
			offs := []int{math.MinInt, math.MinInt + 1, -65, -64, -2, -1, 0, 1, 2, end / 2, end - 2, end - 1, end, end + 1, size - 1, size, size + 1, 63, 64, 65, 180, 181, 500, 1 << 16, 1 << 32, math.MaxInt - 1, math.MaxInt}
			for _, off := range offs {
				for _, n := range []int{0, 1, 2, 3, 62, 63, 64, 65, end - 1, end, end + 1, end - off - 1, end - off, end - off + 1, 1000} {
					if n >= 0 && n <= 1000 {
						g.patch(id, off, g.fresh(n))
					}
				}
				g.agrees()
				if g.room() < 50000 {
					g.end()
					g.tidy()
					g.begin()
				}
			}
			g.end()
			g.agrees()
		})
	}
}

// P14.3: a Patch is one Write of one page: it takes of the log what that takes.
func TestPatchOnce(t *testing.T) {
	for _, size := range []int{1, 64, 180, 900} {
		g, roots := withHeaps(t, roomy(20, 3), 1)
		g.begin()
		g.insert(roots[0], g.fresh(30))
		id := g.insert(roots[0], g.fresh(size))
		g.end()
		for _, n := range []int{0, 1, 2, 17, 64} {
			n = min(n, size)
			b := g.fresh(n)
			was := g.now().pages
			left := g.k.Left()
			g.begin()
			g.patch(id, 0, b)
			took, is := left-g.k.Left(), g.now().pages
			g.cancel()
			g.begin()
			for at := range is {
				if is[at] != was[at] {
					g.gives("Write", g.k.Write(at, []byte(is[at])), api.OK)
				}
			}
			if once := left - g.k.Left(); took != once {
				g.fatal("Patch of %d bytes takes %d bytes of the log, one Write %d", n, took, once)
			}
			g.cancel()
		}
	}
}

// P14.3, P12.3: a Patch of two things is not refused where it undoes, however full the log is.
func TestUndoing(t *testing.T) {
	for fill := range 12 {
		g, roots := withHeaps(t, api.Config{Ring: 150, Pages: 10, Frames: 2}, 1)
		g.begin()
		a, b := g.insert(roots[0], g.fresh(400)), g.insert(roots[0], g.fresh(300))
		other := g.takes(g.fresh(500))
		g.end()
		g.tidy()
		g.begin()
		g.patch(a, 0, g.fresh(64))
		g.endFor(7, "u")
		g.fullTo(other, fill*40)
		g.gives("BeginUndo", g.k.BeginUndo(7), api.OK)
		s := g.now().copy()
		g.act = &s
		for _, id := range []uint64{a, b} {
			if !g.patch(id, 0, g.fresh(64)) {
				g.fatal("Patch was refused")
			}
		}
		g.gives("EndUndo", g.k.EndUndo(), api.OK)
		g.ended()
		g.agrees()
	}
}

// fullTo fills the log, but for so many bytes, and some few, by writes of a page of ours.
func (g *rig) fullTo(n, left int) {
	g.t.Helper()
	for size := 450; size > 0; {
		if g.room() >= left+2*size && g.fills(n, size) {
			continue
		}
		size -= min(30, (size+1)/2)
	}
}

// fills writes so many bytes of a page, if the log has room for them.
func (g *rig) fills(n, size int) bool {
	g.t.Helper()
	g.begin()
	b := g.now().pages[n]
	b = g.fresh(500)[:size] + b[size:]
	if g.k.Write(n, []byte(b)) == api.OK && g.k.End(0, nil) == api.OK {
		g.now().pages[n] = b
		g.ended()
		return true
	}
	g.cancel()
	return false
}

// Where the log has no room: ErrFull, and behind the cancel all is as it was.
func TestLogFull(t *testing.T) {
	for _, size := range []int{10, 180, 1500, 4000} {
		t.Run(fmt.Sprint(size), func(t *testing.T) {
			t.Parallel()
			seen := map[string]bool{}
			for fill := range 80 {
				g, roots := withHeaps(t, api.Config{Ring: 200, Pages: 40, Frames: 2}, 1)
				g.begin()
				other := g.takes(g.fresh(500))
				id := g.insert(roots[0], g.fresh(size))
				g.insert(roots[0], g.fresh(30))
				g.end()
				g.tidy()
				g.fullTo(other, 20+fill*fill*3)
				for what, call := range map[string]func() bool{
					"Make":   func() bool { return g.make() > 0 },
					"Insert": func() bool { return g.insert(roots[0], g.fresh(size)) > 0 },
					"Patch":  func() bool { return g.patch(id, 0, g.fresh(10)) },
					"Delete": func() bool { return g.remove(roots[0], id) },
				} {
					left := g.k.Left()
					g.begin()
					done := call()
					seen[fmt.Sprint(what, done)] = true
					if done {
						g.cancel()
					}
					g.agrees()
					if g.k.Left() != left {
						g.fatal("%s and Cancel: Left %d, not %d", what, g.k.Left(), left)
					}
				}
			}
			for _, what := range []string{"Make", "Insert", "Patch", "Delete"} {
				if !seen[what+"true"] || !seen[what+"false"] {
					t.Errorf("%s was not seen both done and refused: %v", what, seen)
				}
			}
		})
	}
}

// calls is all calls, with what they tell.
func calls(k *kernel.Kernel, root int, id uint64, long []byte) map[string]api.Errno {
	l := map[string]api.Errno{}
	tell := func(what string, zero bool, err api.Errno) {
		if !zero {
			err = 999
		}
		l[what] = err
	}
	n, err := heap.Make(k)
	tell("Make", n == 0, err)
	for i, b := range [][]byte{nil, {1, 2}, long} {
		for j, root := range []int{root, -1, 0, 1 << 40} {
			id, err := heap.Insert(k, root, b)
			tell(fmt.Sprintf("Insert %d %d", i, j), id == 0, err)
		}
	}
	for i, id := range []uint64{id, 0, 255, 256, math.MaxUint64} {
		b, err := heap.Read(k, id)
		tell(fmt.Sprintf("Read %d", i), len(b) == 0, err)
		for j, off := range []int{0, -1, 64, math.MaxInt, math.MinInt} {
			tell(fmt.Sprintf("Patch %d %d", i, j), true, heap.Patch(k, id, off, []byte{9}))
			tell(fmt.Sprintf("Patch of nothing %d %d", i, j), true, heap.Patch(k, id, off, nil))
		}
		for j, root := range []int{root, -1, 0, 1 << 40} {
			tell(fmt.Sprintf("Delete %d %d", i, j), true, heap.Delete(k, root, id))
		}
	}
	return l
}

// P1: of no kernel ErrNil, ahead of all.
func TestNone(t *testing.T) {
	for _, k := range []*kernel.Kernel{nil, {}} {
		for what, err := range calls(k, 1, 256, make([]byte, 17701)) {
			if err != api.ErrNil {
				t.Errorf("%s of no kernel: %d", what, err)
			}
		}
	}
}

// Where no action is open ErrState, ahead of all others; Read works.
func TestNoAction(t *testing.T) {
	g, roots := withHeaps(t, roomy(5, 2), 1)
	g.begin()
	id := g.insert(roots[0], g.fresh(600))
	g.end()
	check := func() {
		t.Helper()
		left := g.k.Left()
		for what, err := range calls(g.k, roots[0], id, make([]byte, 17701)) {
			want := api.ErrState
			switch {
			case what == "Read 0":
				want = 999 // its bytes
			case what[:4] == "Read":
				want = api.ErrNone
			}
			if err != want {
				g.fatal("%s with no action open: %d, not %d", what, err, want)
			}
		}
		g.unchanged("what was refused", left)
		g.agrees()
	}
	check()
	g.begin()
	for g.takes(g.fresh(500)) > 0 {
	}
	g.end()
	check()
	g.begin()
	g.remove(roots[0], id)
	g.cancel()
	check()
}

// Once the device told an error ErrDown, ahead of all others, with an action open and with none.
func TestDown(t *testing.T) {
	for _, open := range []bool{false, true} {
		g, roots := withHeaps(t, roomy(12, 2), 1)
		g.begin()
		id := g.insert(roots[0], g.fresh(600))
		g.end()
		if open {
			g.begin()
			g.insert(roots[0], "ab")
		}
		g.gives("Arm", g.d.Arm(1), api.OK)
		g.gives("Sync", g.d.Sync(), api.ErrDown)
		for n := range 12 {
			if _, err := g.k.Read(n); err == api.ErrDown {
				break
			}
		}
		for what, err := range calls(g.k, roots[0], id, make([]byte, 17701)) {
			if err != api.ErrDown {
				g.fatal("%s, the device is down: %d", what, err)
			}
		}
	}
}

// Cancel behind each call: all is as it was.
func TestCancel(t *testing.T) {
	g, roots := withHeaps(t, roomy(100, 3), 2)
	g.begin()
	var ids []uint64
	for _, size := range []int{3, 100, 100, 100, 300, 2000} {
		ids = append(ids, g.insert(roots[0], g.fresh(size)), g.insert(roots[1], g.fresh(size)))
	}
	g.end()
	check := func(call func()) {
		t.Helper()
		left := g.k.Left()
		g.begin()
		call()
		g.agrees()
		g.cancel()
		g.agrees()
		if g.k.Left() != left {
			g.fatal("Left: %d, not %d", g.k.Left(), left)
		}
	}
	check(func() { g.make() })
	for _, size := range []int{0, 10, 170, 400, 2000, 17701} {
		check(func() { g.insert(roots[0], g.fresh(size)) })
	}
	for i, id := range ids {
		check(func() { g.patch(id, 1, "xy") })
		check(func() { g.patch(id, 64, "xy") })
		check(func() { g.remove(roots[i%2], id) })
		check(func() { g.remove(0, id) })
	}
	check(func() {
		for i, id := range ids {
			g.remove(roots[i%2], id)
		}
		g.insert(roots[1], g.fresh(5000))
	})
}

// Ways: where there is room is remembered: what is taken out makes room for what is
// put in, and things that are short stand together.
func TestRoom(t *testing.T) {
	g, roots := withHeaps(t, roomy(80, 3), 1)
	root := roots[0]
	put := func(n, size int) {
		t.Helper()
		g.begin()
		for range n {
			g.insert(root, g.fresh(size))
		}
		g.end()
		g.tidy()
	}
	put(40, 94)
	if n := g.now().has(root); n > 11 {
		g.fatal("40 things of 94 bytes: %d pages", n)
	}
	// One of each page's things goes, and as many come again.
	for range 3 {
		pages := g.now().has(root)
		g.begin()
		last := uint64(0)
		n := 0
		for _, id := range g.now().of(root) {
			if id>>8 != last>>8 {
				g.remove(root, id)
				n++
			}
			last = id
		}
		g.end()
		put(n, 94)
		if now := g.now().has(root); now != pages {
			g.fatal("%d pages, not %d", now, pages)
		}
	}
	g.agrees()
	// Things that fill pages wholly, and one that is too long by a byte.
	put(2, 180)
	put(1, 122)
	pages := g.now().has(root)
	put(2, 180)
	put(1, 123)
	if now := g.now().has(root); now != pages+2 {
		g.fatal("%d pages, not %d and two", now, pages)
	}
	g.empties(root, rand.New(rand.NewSource(4)))
	// Of more pages than are remembered those with the most room are: the first one
	// is forgotten, and is not remembered for the 22 bytes that come to be free there.
	put(2, 180)
	put(1, 100)
	put(1, 14)
	last := g.now().of(root)[3]
	put(32, 180)
	g.begin()
	g.remove(root, last)
	g.end()
	pages = g.now().has(root)
	put(16, 122)
	if now := g.now().has(root); now != pages {
		g.fatal("%d pages, not %d", now, pages)
	}
	g.empties(root, rand.New(rand.NewSource(5)))
	put(60, 150)
	pages = g.now().has(root)
	put(3, 150)
	if now := g.now().has(root); now != pages+1 {
		g.fatal("%d pages, not %d and one", now, pages)
	}
	g.agrees()
	g.empties(root, rand.New(rand.NewSource(3)))
}

// P14.4, P1: drawn calls, cancels and crashes against the model.
func TestDrawn(t *testing.T) {
	configs := []api.Config{{Ring: 1200, Pages: 4, Frames: 1}, {Ring: 1200, Pages: 12, Frames: 2}, {Ring: 2000, Pages: 60, Frames: 1}, {Ring: 1500, Pages: 60, Frames: 5}}
	for i, c := range configs {
		for run := range 6 {
			t.Run(fmt.Sprint(c, run), func(t *testing.T) {
				t.Parallel()
				g := rigged(t, c)
				r := rand.New(rand.NewSource(int64(100*i + run)))
				for range 60 {
					g.deed(r)
				}
				g.tidy()
				for n := range c.Pages {
					if g.now().isRoot(n) {
						g.empties(n, r)
					}
				}
			})
		}
	}
}

// deed is an action, a commit or a crash, drawn.
func (g *rig) deed(r *rand.Rand) {
	g.t.Helper()
	if g.room() < 70000 {
		g.tidy()
	}
	switch x := r.Intn(14); {
	case x == 0:
		g.commit()
	case x == 1:
		if r.Intn(2) == 0 {
			g.begin()
			g.some(r)
		}
		picks := make([]byte, len(g.d.Waits()))
		for i := range picks {
			picks[i] = byte(r.Intn(4))
		}
		g.crash(picks)
	case x == 2:
		g.tidy()
	default:
		g.begin()
		for range r.Intn(8) {
			if g.act != nil {
				g.some(r)
			}
		}
		switch {
		case g.act == nil:
		case r.Intn(4) == 0:
			g.cancel()
		default:
			g.end()
		}
	}
	g.agrees()
}

// some is a call in an open action, drawn.
func (g *rig) some(r *rand.Rand) {
	g.t.Helper()
	s := g.now()
	root, id := r.Intn(g.c.Pages+2)-1, uint64(r.Intn(256*g.c.Pages))
	var roots []int
	for n := range g.c.Pages {
		if s.isRoot(n) {
			roots = append(roots, n)
		}
	}
	if ids := s.ids(); len(ids) > 0 && r.Intn(20) > 0 {
		id = ids[r.Intn(len(ids))]
		root = s.things[id].root
	} else if len(roots) > 0 && r.Intn(20) > 0 {
		root = roots[r.Intn(len(roots))]
	}
	switch x := r.Intn(20); {
	case x < 1 || len(roots) == 0:
		g.make()
	case x < 9:
		if r.Intn(2) == 0 && len(roots) > 0 {
			root = roots[r.Intn(len(roots))]
		}
		g.insert(root, g.fresh(drawnSize(r)))
	case x < 11:
		g.patch(id, r.Intn(70)-3, g.fresh(r.Intn(20)))
	case x < 13:
		g.patch(id, r.Intn(3), g.fresh(r.Intn(3)))
	case x < 18:
		g.remove(root, id)
	default:
		g.read(id)
	}
}

// drawnSize is how long a thing is, drawn.
func drawnSize(r *rand.Rand) int {
	switch x := r.Intn(20); {
	case x < 8:
		return r.Intn(100)
	case x < 12:
		return r.Intn(500)
	case x < 18:
		return sizes[r.Intn(len(sizes)-3)]
	case x < 19:
		return r.Intn(3000)
	}
	return sizes[r.Intn(len(sizes))]
}

// P14.4, P1: heaps of two kernels know nothing of each other, and those of one kernel have nothing of each other.
func TestTwo(t *testing.T) {
	a, as := withHeaps(t, roomy(40, 2), 3)
	b, bs := withHeaps(t, roomy(40, 2), 2)
	r := rand.New(rand.NewSource(2))
	for range 10 {
		a.begin()
		b.begin()
		for range 4 {
			a.insert(as[r.Intn(3)], a.fresh(r.Intn(700)))
			b.insert(bs[r.Intn(2)], b.fresh(r.Intn(700)))
		}
		for _, id := range a.now().ids() {
			if r.Intn(2) == 0 {
				a.remove(a.now().things[id].root, id)
			}
		}
		a.end()
		b.cancel()
		a.agrees()
		b.agrees()
	}
	for _, root := range as {
		a.empties(root, r)
	}
}

// The chapter's examples.
func TestExamples(t *testing.T) {
	c := api.Config{Ring: 100, Pages: 6, Frames: 2}
	d, _ := disk.New(kernel.Sectors(c), kernel.Sectors(c))
	k, err := kernel.Make(d, c)
	if err != api.OK || k.Begin() != api.OK || space.Init(k) != api.OK {
		t.Fatal("Init")
	}
	root, err := heap.Make(k)
	if err != api.OK {
		t.Fatal("Make", err)
	}
	none, err := heap.Insert(k, root, nil)
	if err != api.OK {
		t.Error("Insert of none", err)
	}
	if b, err := heap.Read(k, none); len(b) != 0 || err != api.OK {
		t.Error("Read of none", b, err)
	}
	if id, err := heap.Insert(k, root, make([]byte, 17701)); id != 0 || err != api.ErrLong {
		t.Error("Insert of 17701 bytes", id, err)
	}
	id, err := heap.Insert(k, root, []byte("abc"))
	if err != api.OK {
		t.Error("Insert of abc", err)
	}
	if err := heap.Patch(k, id, 2, []byte("x")); err != api.OK {
		t.Error("Patch", err)
	}
	if b, err := heap.Read(k, id); string(b) != "abx" || err != api.OK {
		t.Error("Read", b, err)
	}
	if err := heap.Patch(k, id, 2, []byte("xy")); err != api.ErrArg {
		t.Error("Patch beyond the end", err)
	}
	if err := heap.Delete(k, root, id); err != api.OK {
		t.Error("Delete", err)
	}
	if b, err := heap.Read(k, id); len(b) != 0 || err != api.ErrNone {
		t.Error("Read", b, err)
	}
	if err := heap.Delete(k, root, id); err != api.ErrNone {
		t.Error("Delete", err)
	}
}
