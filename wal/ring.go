package wal

import (
	"bytes"

	"vicinage/api"
	"vicinage/code"
	"vicinage/crc"
	"vicinage/disk"
	"vicinage/logrec"
)

const (
	heads    = 2                      // sectors ahead of the ring
	halfSize = api.Sector / 2         // bytes of half a sector: all of them last, or none
	headSize = halfSize - api.HalfLog // bytes of it ahead of the log's
)

// known is what both sectors ahead of the ring say: where the log starts, up to
// where it lasted when that was said, its point, its epoch. Up to there the
// bytes of the log last, whatever epoch they are of; beyond it those alone that
// were written in this one.
type known struct {
	start, flushed, point uint64
	epoch                 uint32
}

// half is half a sector of the ring: behind a crash all of it is as it was
// written last, or as it was ahead of that.
type half struct {
	header
	log [api.HalfLog]byte
}

// header tells which of the log's bytes a half has: in which round of the ring
// and in which epoch they were written, and how many they are. In one epoch no
// byte of the log is ever written with two values.
type header struct {
	round, epoch, fill uint32
}

// laid is a log at its place on a device, as first makes it.
func laid(d *disk.Disk, at, count int, first func(l *Log) api.Errno) (*Log, api.Errno) {
	sectors := d.Sectors()
	// Every device that was made has sectors, whether its power is on or off.
	if sectors == 0 {
		return nil, api.ErrNil
	}
	// The count is held against its bounds first: at + count itself might run over.
	if count < api.MinRing || count > api.MaxRing || at < 0 || at > sectors-heads-count {
		return nil, api.ErrArg
	}
	l := &Log{d: d, at: at, count: count}
	if err := first(l); err != api.OK {
		return nil, err
	}
	return l, api.OK
}

// begin makes the log an empty one.
func (l *Log) begin() api.Errno {
	if err := l.wipe(); err != api.OK {
		return err
	}
	return l.tell(known{start: api.FirstLsn, flushed: api.FirstLsn, epoch: 1})
}

// wipe makes the ring noughts: rounds and epochs begin anew, so what another log
// left there might pass for this one's.
func (l *Log) wipe() api.Errno {
	noughts := make([]byte, api.Sector)
	for h := uint64(0); h < l.halves(); h += 2 {
		b, err := l.d.Read(l.sector(h))
		// What is 0 is not written: the device may have no room for it yet.
		if err == api.OK && !bytes.Equal(b, noughts) {
			err = l.d.Write(l.sector(h), noughts)
		}
		if err != api.OK {
			return l.told(err)
		}
	}
	return api.OK
}

// find finds the log that lasts, and begins its next epoch.
func (l *Log) find() api.Errno {
	if err := l.learn(); err != api.OK {
		return err
	}
	// What waits is read, but might be lost yet: what is found must last.
	if err := l.told(l.d.Sync()); err != api.OK {
		return err
	}
	b, err := l.lasting()
	if err != api.OK {
		return err
	}
	now := l.known
	now.flushed, now.epoch = l.start, l.epoch+1
	for {
		x, size, err := logrec.Read(b)
		if err != api.OK || x.Lsn != now.flushed {
			break
		}
		l.places = append(l.places, now.flushed)
		now.flushed += uint64(size)
		b = b[size:]
	}
	return l.tell(now)
}

// learn takes what one of both sectors says. They differ only where the power
// went when both were written: then either will do.
func (l *Log) learn() api.Errno {
	for i := range heads {
		b, err := l.d.Read(l.at + i)
		if err != api.OK {
			return l.told(err)
		}
		if k, ok := l.said(b); ok {
			l.known = k
			return api.OK
		}
	}
	return api.ErrDamaged
}

// tell makes both sectors say what is known now, and takes it when it lasts.
func (l *Log) tell(now known) api.Errno {
	b := l.form(now)
	for i := range heads {
		if err := l.told(l.d.Write(l.at+i, b)); err != api.OK {
			return err
		}
	}
	if err := l.told(l.d.Sync()); err != api.OK {
		return err
	}
	l.known = now
	return api.OK
}

// form is the bytes of a sector that says what is known. All but noughts stands
// in its first half: so it is never torn.
func (l *Log) form(k known) []byte {
	b := code.Put32(code.Put32(nil, uint32(l.at)), uint32(l.count))
	b = code.Put64(code.Put64(code.Put64(b, k.start), k.flushed), k.point)
	b = code.Put32(b, k.epoch)
	b = append(code.Put32(nil, crc.Sum(b)), b...)
	return append(b, make([]byte, api.Sector-len(b))...)
}

// said is what the bytes of a sector say, and whether they are this log's at all.
func (l *Log) said(b []byte) (known, bool) {
	r := code.NewReader(b)
	// The sum and the log's place: its own form tells whether they are right.
	for range 3 {
		r.U32()
	}
	k := known{start: r.U64(), flushed: r.U64(), point: r.U64(), epoch: r.U32()}
	return k, bytes.Equal(b, l.form(k))
}

// lasting is the bytes of the log from Start on, up to the first one that does not last.
func (l *Log) lasting() ([]byte, api.Errno) {
	var b []byte
	first := l.start / api.HalfLog
	for h := first; h < first+l.halves(); h++ {
		x, err := l.half(h)
		if err != api.OK {
			return nil, err
		}
		n := l.good(h, x)
		b = append(b, x.log[:n]...)
		if n < api.HalfLog {
			break
		}
	}
	return b[min(len(b), int(l.start%api.HalfLog)):], api.OK
}

// good is how many bytes of the log there are in x, which stands where the half
// h of the log is to stand.
func (l *Log) good(h uint64, x half) int {
	n := min(uint64(x.fill), api.HalfLog)
	switch {
	case x.round != l.round(h):
		return 0
	case x.epoch != l.epoch:
		place := h * api.HalfLog
		n = min(n, max(place, l.flushed)-place)
	}
	return int(n)
}

// between is the bytes of the log from one place to another, which all last, or all wait.
func (l *Log) between(from, to uint64) ([]byte, api.Errno) {
	if from >= l.flushed {
		return l.waits[from-l.flushed : to-l.flushed], api.OK
	}
	var b []byte
	for h := from / api.HalfLog; h*api.HalfLog < to; h++ {
		x, err := l.half(h)
		if err != api.OK {
			return nil, err
		}
		b = append(b, x.log[:]...)
	}
	return b[from%api.HalfLog:][:to-from], api.OK
}

// write makes last what waits.
func (l *Log) write() api.Errno {
	last := (l.End() - 1) / api.HalfLog
	for h := l.flushed / api.HalfLog; h <= last; h = h/2*2 + 2 {
		if err := l.put(h, last); err != api.OK {
			return err
		}
	}
	return l.told(l.d.Sync())
}

// put writes the sector of the half h. Its halves from h up to last get what
// waits; another one, which may be Start's own, stays as it is.
func (l *Log) put(h, last uint64) api.Errno {
	at := l.sector(h)
	b, err := l.d.Read(at)
	if err != api.OK {
		return l.told(err)
	}
	for i := h; i <= min(last, h/2*2+1); i++ {
		part := b[i%2*halfSize:][:halfSize]
		copy(part, l.filled(i, halfOf(part)).bytes())
	}
	return l.told(l.d.Write(at, b))
}

// filled is the half h of the log as it is to be: what lasts of it, and then what waits.
func (l *Log) filled(h uint64, was half) half {
	place := h * api.HalfLog
	old := max(place, l.flushed) - place
	var x half
	copy(x.log[:old], was.log[:])
	fresh := copy(x.log[old:], l.waits[place+old-l.flushed:])
	x.header = header{round: l.round(h), epoch: l.epoch, fill: uint32(old) + uint32(fresh)}
	return x
}

// half is what stands where the half h of the log is to stand.
func (l *Log) half(h uint64) (half, api.Errno) {
	b, err := l.d.Read(l.sector(h))
	if err != api.OK {
		return half{}, l.told(err)
	}
	return halfOf(b[h%2*halfSize:][:halfSize]), api.OK
}

// halves is how many the ring has.
func (l *Log) halves() uint64 { return 2 * uint64(l.count) }

// round is how often the ring was gone round ahead of the half h of the log.
func (l *Log) round(h uint64) uint32 { return uint32(h / l.halves()) }

// sector is the sector in which the half h of the log stands.
func (l *Log) sector(h uint64) int { return l.at + heads + int(h%l.halves()/2) }

// halfOf is the half of a sector that bytes tell.
func halfOf(b []byte) half {
	r := code.NewReader(b[:headSize])
	x := half{header: header{round: r.U32(), epoch: r.U32(), fill: r.U32()}}
	copy(x.log[:], b[headSize:])
	return x
}

// bytes is its bytes in a sector.
func (x half) bytes() []byte {
	b := code.Put32(code.Put32(code.Put32(nil, x.round), x.epoch), x.fill)
	return append(b, x.log[:]...)
}
