package space

import (
	"iter"
	"math/bits"

	"vicinage/api"
	"vicinage/kernel"
)

// leaf is a page of the map: a bit for each of MapBits pages.
type leaf [api.Body]byte

// read is the page i of the map.
func read(k *kernel.Kernel, i int) (leaf, api.Errno) {
	b, err := k.Read(i)
	if err != api.OK {
		return leaf{}, err
	}
	return leaf(b), api.OK
}

// write writes the page i of the map.
func (l *leaf) write(k *kernel.Kernel, i int) api.Errno { return k.Write(i, l[:]) }

// has tells whether the bit b is 1.
func (l *leaf) has(b int) bool { return l[b/8]&(1<<(b%8)) != 0 }

// turn makes the bit b the other one.
func (l *leaf) turn(b int) { l[b/8] ^= 1 << (b % 8) }

// free is those of the first n bits that are 0, rising.
func (l *leaf) free(n int) iter.Seq[int] {
	return func(yield func(int) bool) {
		for i, x := range l {
			for noughts := ^x; noughts != 0; noughts &= noughts - 1 {
				b := 8*i + bits.TrailingZeros8(noughts)
				if b >= n || !yield(b) {
					return
				}
			}
		}
	}
}
