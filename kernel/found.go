package kernel

import (
	"bytes"
	"iter"

	"vicinage/api"
	"vicinage/disk"
	"vicinage/pool"
	"vicinage/wal"
)

// From the first sector on there are the log's, the spare ones, the pages.
const (
	heads  = 2                         // of the log, ahead of its ring
	spares = 5                         // that belong to no page
	parts  = api.PageSize / api.Sector // of a page
)

// spare is the first sector behind the log's.
func spare(c api.Config) int { return heads + c.Ring }

// base is the first sector of the pages.
func base(c api.Config) int { return spare(c) + spares }

// area is where the pages lie.
func area(c api.Config) api.Area { return api.Area{Spare: spare(c), Base: base(c), Pages: c.Pages} }

// laid is a kernel on a device, as first makes it.
func laid(d *disk.Disk, c api.Config, first func(k *Kernel, d *disk.Disk, c api.Config) api.Errno) (*Kernel, api.Errno) {
	sectors, own := d.Sectors(), Sectors(c)
	switch {
	// Every device that was made has sectors, whether its power is on or off.
	case sectors == 0:
		return nil, api.ErrNil
	case own == 0 || own > sectors:
		return nil, api.ErrArg
	}
	k := &Kernel{pages: c.Pages, open: map[uint64]chain{}}
	err := k.guarded(func() api.Errno { return first(k, d, c) })
	if err != api.OK {
		return nil, err
	}
	return k, api.OK
}

// begin makes all pages noughts, and the log empty.
func (k *Kernel) begin(d *disk.Disk, c api.Config) api.Errno {
	noughts := make([]byte, api.Sector)
	for at := spare(c); at < Sectors(c); at++ {
		b, err := d.Read(at)
		must(err)
		// What is 0 is not written: a device may have thousands of pages that are never used.
		if !bytes.Equal(b, noughts) {
			must(d.Write(at, noughts))
		}
	}
	must(d.Sync())
	l, err := wal.Make(d, 0, c.Ring)
	must(err)
	k.stand(d, c, l)
	return api.OK
}

// find makes pages and transactions what they were.
func (k *Kernel) find(d *disk.Disk, c api.Config) api.Errno {
	// The log is asked for ahead of the mending: where there is none nothing is
	// to be changed, and none of the area's sectors are its own.
	l, err := wal.Open(d, 0, c.Ring)
	if err == api.ErrDamaged {
		return err
	}
	must(err)
	must(pool.Mend(d, area(c)))
	k.stand(d, c, l)
	k.restore()
	return api.OK
}

// stand puts the kernel on its log and a pool.
func (k *Kernel) stand(d *disk.Disk, c api.Config, l *wal.Log) {
	p, err := pool.New(d, l, area(c), c.Frames)
	must(err)
	k.l, k.p = l, p
}

// restore goes through the log: what was ended is there again, and an action
// without its end is not.
func (k *Kernel) restore() {
	whole := k.l.Start()
	k.pass(func(x api.Rec, behind uint64) {
		k.note(x)
		if x.Kind != api.RecWrite {
			whole = behind
		}
	})
	must(k.l.Drop(whole))
	k.pass(k.redo)
}

// pass hands over all records, one after the other, each with the place behind it.
func (k *Kernel) pass(do func(x api.Rec, behind uint64)) {
	for x, behind := range k.told() {
		do(x, behind)
	}
}

// told goes over the records of the log.
func (k *Kernel) told() iter.Seq2[api.Rec, uint64] {
	return func(yield func(api.Rec, uint64) bool) {
		for at := k.l.Start(); at < k.l.End(); {
			x, behind, err := k.l.Read(at)
			must(err)
			if !yield(x, behind) {
				return
			}
			at = behind
		}
	}
}

// redo writes again what a record says, if its page is older.
func (k *Kernel) redo(x api.Rec, _ uint64) {
	if x.Kind != api.RecWrite {
		return
	}
	n := int(x.Page)
	was := k.get(n)
	if was.Lsn >= x.Lsn {
		return
	}
	copy(was.Body[x.Off:], x.New)
	k.put(n, api.Paper{Lsn: x.Lsn, Body: was.Body})
}
