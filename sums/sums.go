// Package sums is layer 1: check sums: see shared/doc/01-sums.md.
package sums

import (
	"bytes"

	"outstation/api"
)

// The sums' own numbers, and how many bytes a sum has behind what it seals.
const (
	own16  = 0xA001
	own32  = 0xEDB88320
	size16 = 2
	size32 = 4
)

// register: both sums take bytes alike, they differ only in width and number.
type register interface {
	uint16 | uint32
}

// Crc16 is the sum of a line's frames.
func Crc16(b []byte) uint16 { return More16(0xFFFF, b) }

// More16 goes on with a sum.
func More16(crc uint16, b []byte) uint16 { return takeAll(crc, own16, b) }

// Crc32 is the sum of files and packets.
func Crc32(b []byte) uint32 { return More32(0, b) }

// More32 goes on with a sum.
func More32(crc uint32, b []byte) uint32 { return ^takeAll(^crc, own32, b) }

// Seal16 is bytes with their sum behind them.
func Seal16(b []byte) []byte { return seal(b, Crc16(b), size16) }

// Open16 is what was sealed.
func Open16(b []byte) ([]byte, api.Errno) { return open(b, size16, Seal16) }

// Seal32 is bytes with their sum behind them.
func Seal32(b []byte) []byte { return seal(b, Crc32(b), size32) }

// Open32 is what was sealed.
func Open32(b []byte) ([]byte, api.Errno) { return open(b, size32, Seal32) }

// takeAll is what a register comes to behind all bytes of b.
func takeAll[R register](r, own R, b []byte) R {
	for _, v := range b {
		r = take(r, own, v)
	}
	return r
}

// take is what a register comes to behind one byte.
func take[R register](r, own R, v byte) R {
	r ^= R(v)
	for range 8 {
		r = down(r, own)
	}
	return r
}

// down is what a register comes to when it goes down by one bit.
func down[R register](r, own R) R {
	if r&1 == 1 {
		return r>>1 ^ own
	}
	return r >> 1
}

// seal lays a sum behind b, the lowest byte first. It starts from memory of its own: an append to b itself might write into b's spare room, which is the caller's.
func seal[R register](b []byte, sum R, size int) []byte {
	out := make([]byte, 0, len(b)+size)
	out = append(out, b...)
	for range size {
		out = append(out, byte(sum))
		sum >>= 8
	}
	return out
}

// open seals what is ahead of the sum once more: so there is one place alone that says how a sum is laid, and the answer is new memory.
func open(b []byte, size int, again func([]byte) []byte) ([]byte, api.Errno) {
	if len(b) < size {
		return nil, api.ErrShort
	}
	n := len(b) - size
	sealed := again(b[:n])
	if !bytes.Equal(sealed, b) {
		return nil, api.ErrSum
	}
	return sealed[:n:n], api.OK
}
