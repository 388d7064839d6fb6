// Package crc has the check sum of frames, and numbers as bytes: see ../../shared/DOC.md and doc/01-crc.md.
package crc

import "lictor/api"

// polynomial is that of IEEE 802.3, its bits turned round, as the register moves right.
const polynomial = 0xedb88320

// register is what the bytes so far have come to.
type register struct {
	bits uint32
}

// step takes one byte in.
func (r *register) step(b byte) {
	r.bits ^= uint32(b)
	for range 8 {
		out := r.bits & 1
		r.bits >>= 1
		if out == 1 {
			r.bits ^= polynomial
		}
	}
}

// Sum is a text's check sum.
func Sum(s string) uint32 {
	return More(0, s)
}

// More is the check sum of a text whose check sum is c, and of s behind it.
func More(c uint32, s string) uint32 {
	// A check sum is the register with all bits turned: turned back, the register goes on from where it was. That of no bytes is 0.
	r := register{bits: ^c}
	step := r.step
	for i := range len(s) {
		step(s[i])
	}
	return ^r.bits
}

// bytesOf has a number's bytes, the lowest one first.
func bytesOf(n uint64) [8]byte {
	var b [8]byte
	for i := range b {
		b[i] = byte(n >> (8 * i))
	}
	return b
}

// numberOf is the number whose bytes s has, at most eight.
func numberOf(s string) uint64 {
	n := uint64(0)
	for i := range len(s) {
		n |= uint64(s[i]) << (8 * i)
	}
	return n
}

// Put32 has a number's four bytes.
func Put32(n uint32) string {
	b := bytesOf(uint64(n))
	return string(b[:4])
}

// Put64 has a number's eight bytes.
func Put64(n uint64) string {
	b := bytesOf(n)
	return string(b[:])
}

// Get32 is the number whose four bytes s has.
func Get32(s string) (uint32, api.Errno) {
	if len(s) != 4 {
		return 0, api.ErrForm
	}
	return uint32(numberOf(s)), api.OK
}

// Get64 is the number whose eight bytes s has.
func Get64(s string) (uint64, api.Errno) {
	if len(s) != 8 {
		return 0, api.ErrForm
	}
	return numberOf(s), api.OK
}

// Flip is s with one bit turned; bits are counted from the first byte's lowest one.
func Flip(s string, bit int) (string, api.Errno) {
	if bit < 0 || bit/8 >= len(s) {
		return "", api.ErrRange
	}
	b := []byte(s)
	b[bit/8] ^= 1 << (bit % 8)
	return string(b), api.OK
}
