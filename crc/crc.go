// Package crc is layer 1: sums of bytes (CRC-32C) that tell what was turned. See shared/doc/01-crc.md.
package crc

import "math/bits"

// poly is the polynomial 1EDC6F41, reflected, since the lowest bit of a byte comes first.
const poly uint32 = 0x82F63B78

// step is what a step makes of each of the register's 32 bits. What it makes of
// several bits is the exclusive or of these, so 32 words tell all of it.
type step [32]uint32

// Sum is the sum of b; of no bytes it is 0.
func Sum(b []byte) uint32 { return More(0, b) }

// More is the sum of bytes whose sum is sum with b behind them.
func More(sum uint32, b []byte) uint32 {
	t := byteTable()
	take := func(r uint32, x byte) uint32 { return t[byte(r)^x] ^ r>>8 }
	// A sum is the register turned round: turned back, it goes on where it stood.
	r := ^sum
	for _, x := range b {
		r = take(r, x)
	}
	return ^r
}

// Join is the sum of bytes with the sum a and n bytes with the sum b behind
// them; n below 0 counts as 0.
func Join(a, b uint32, n int) uint32 {
	// What the register began with, and the turning at its end, stand in both
	// sums alike and fall out: only the n bytes' way of a is left to be gone.
	for s := byteStep(); n > 0; n /= 2 {
		if n%2 == 1 {
			a = s.take(a)
		}
		s = s.square()
	}
	return a ^ b
}

// half takes the register through one bit 0.
func half(r uint32) uint32 {
	if r&1 == 1 {
		return r>>1 ^ poly
	}
	return r >> 1
}

// byteTable is what becomes of a register that has only its lowest byte when
// it is taken through a byte 0.
func byteTable() [256]uint32 {
	var t [256]uint32
	r := uint32(1)
	// The highest bit of the byte is a 1 that is halved once, the lowest one
	// eight times; each other byte is the exclusive or of its bits.
	for bit := 128; bit > 0; bit /= 2 {
		r = half(r)
		for rest := 0; rest < 256; rest += 2 * bit {
			t[rest+bit] = t[rest] ^ r
		}
	}
	return t
}

// byteStep is the step through one byte 0.
func byteStep() step {
	var s step
	for i := range s {
		s[i] = 1 << i
		for range 8 {
			s[i] = half(s[i])
		}
	}
	return s
}

// take is what the step makes of the register r.
func (s step) take(r uint32) uint32 {
	var x uint32
	for ; r != 0; r &= r - 1 {
		x ^= s[bits.TrailingZeros32(r)]
	}
	return x
}

// square is the step done twice.
func (s step) square() step {
	var x step
	for i, r := range s {
		x[i] = s.take(r)
	}
	return x
}
