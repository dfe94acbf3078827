package pool

import (
	"bytes"
	"slices"

	"vicinage/api"
	"vicinage/disk"
	"vicinage/page"
)

const (
	spares   = 5                         // sectors that belong to no page
	parts    = api.PageSize / api.Sector // sectors of a page
	halfSize = api.Sector / 2            // bytes of half a sector: all of them last, or none
	mark     = "put back "               // with which each half of the spare sectors begins that has a piece of a page
	tagSize  = len(mark) + 3             // bytes of a half ahead of its piece
	piece    = halfSize - tagSize        // bytes of a page in a half
)

// region is an area of a device.
//
// A page that is put back is laid into the spare sectors first, a piece into each
// of their halves; when all of it lasts there, into its own sectors; when it lasts
// there, too, the first spare sector is made noughts. So the spare ones have a
// whole page just while its own sectors may be torn. Each half has a tag, which
// tells the page and the turn: halves of two turns that stand side by side never
// have the same one. No sum tells what is whole: it might be right by chance.
type region struct {
	d    *disk.Disk
	area api.Area
}

// laid is an area that lies on a device.
func laid(d *disk.Disk, a api.Area) (region, api.Errno) {
	sectors := d.Sectors()
	// Every device that was made has sectors, whether its power is on or off.
	if sectors == 0 {
		return region{}, api.ErrNil
	}
	// Each number is held against its bounds ahead of the sums, which might run over.
	if a.Spare < 0 || a.Spare > sectors-spares {
		return region{}, api.ErrArg
	}
	if a.Base < 0 || a.Pages < 1 || a.Pages > (sectors-a.Base)/parts {
		return region{}, api.ErrArg
	}
	if a.Spare < a.Base+parts*a.Pages && a.Base < a.Spare+spares {
		return region{}, api.ErrArg
	}
	return region{d, a}, api.OK
}

// has tells whether there is a page n.
func (r region) has(n int) bool { return n >= 0 && n < r.area.Pages }

// mend makes the page whole whose sectors may be torn.
func (r region) mend() api.Errno {
	s, err := r.spare()
	if err != api.OK {
		return err
	}
	n, x, ok := whole(s)
	if !ok || !r.has(n) {
		return api.OK
	}
	return r.settle(n, x)
}

// write makes x the page n of the device.
func (r region) write(n int, x api.Paper) api.Errno {
	if err := r.claim(n); err != api.OK {
		return err
	}
	if err := r.lay(n, x); err != api.OK {
		return err
	}
	return r.settle(n, x)
}

// claim writes what was never written of the page n, as it is: so the device can
// no longer be full when the page is half written.
func (r region) claim(n int) api.Errno {
	first := r.area.Base + parts*n
	noughts := make([]byte, api.Sector)
	for at := first; at < first+parts; at++ {
		b, err := r.d.Read(at)
		if err == api.OK && bytes.Equal(b, noughts) {
			err = r.d.Write(at, noughts)
		}
		if err != api.OK {
			return err
		}
	}
	return api.OK
}

// lay makes the spare sectors have the page n.
func (r region) lay(n int, x api.Paper) api.Errno {
	was, err := r.spare()
	if err != api.OK {
		return err
	}
	b, err := page.Bytes(x)
	if err != api.OK {
		return err
	}
	s := laidOut(b, tag(n, fresh(was)))
	for i := range spares {
		if err := r.d.Write(r.area.Spare+i, s[i*api.Sector:(i+1)*api.Sector]); err != api.OK {
			return err
		}
	}
	return r.d.Sync()
}

// settle makes x, which the spare sectors have, the page n, and then gives them up.
func (r region) settle(n int, x api.Paper) api.Errno {
	if err := page.Write(r.d, r.area.Base, n, x); err != api.OK {
		return err
	}
	if err := r.d.Sync(); err != api.OK {
		return err
	}
	if err := r.d.Write(r.area.Spare, make([]byte, api.Sector)); err != api.OK {
		return err
	}
	return r.d.Sync()
}

// spare is the bytes of the spare sectors.
func (r region) spare() ([]byte, api.Errno) {
	var s []byte
	for i := range spares {
		b, err := r.d.Read(r.area.Spare + i)
		if err != api.OK {
			return nil, err
		}
		s = append(s, b...)
	}
	return s, api.OK
}

// tag is what a half with a piece of the page n begins with. A device has fewer
// pages than two bytes tell.
func tag(n int, turn byte) []byte { return append([]byte(mark), turn, byte(n), byte(n>>8)) }

// laidOut is the bytes of the spare sectors that have the bytes of a page.
func laidOut(b, tag []byte) []byte {
	var s []byte
	for part := range slices.Chunk(b, piece) {
		s = append(append(s, tag...), part...)
	}
	return append(s, make([]byte, spares*api.Sector-len(s))...)
}

// fresh is a turn that no half of the spare sectors has.
func fresh(s []byte) byte {
	var had []byte
	for half := range slices.Chunk(s, halfSize) {
		had = append(had, half[len(mark)])
	}
	var turn byte
	for slices.Contains(had, turn) {
		turn++
	}
	return turn
}

// whole is the page that the spare sectors have, if the same tag is on all of their halves.
func whole(s []byte) (int, api.Paper, bool) {
	turn, n := s[len(mark)], int(s[len(mark)+1])|int(s[len(mark)+2])<<8
	var b []byte
	for half := range slices.Chunk(s, halfSize) {
		if !bytes.Equal(half[:tagSize], tag(n, turn)) {
			return 0, api.Paper{}, false
		}
		b = append(b, half[tagSize:]...)
	}
	// What was laid out has a right sum; anything else stood there ahead of all.
	x, err := page.Open(b[:api.PageSize])
	return n, x, err == api.OK
}
