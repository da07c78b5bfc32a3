// Package sums is layer 1: the small check sum of headers, and the great one of datagrams.
package sums

import (
	"flume/api"
)

// tail is how many bytes a seal has.
const tail = 4

// fours has what four bits, shifted out of the great sum, add to it.
var fours = [16]uint32{
	0x00000000, 0x1db71064, 0x3b6e20c8, 0x26d930ac,
	0x76dc4190, 0x6b6b51f4, 0x4db26158, 0x5005713c,
	0xedb88320, 0xf00f9344, 0xd6d6a3e8, 0xcb61b38c,
	0x9b64c2b0, 0x86d3d2d4, 0xa00ae278, 0xbdbdf21c,
}

// Inet is the check sum of a header's parts, each of which is filled up to whole words.
func Inet(parts ...[]byte) uint16 {
	return ^fold(total(parts))
}

// Valid tells whether bytes, a check sum among them, are as they were summed.
func Valid(parts ...[]byte) bool {
	sum := fold(total(parts))
	return sum == 0 || sum == 0xffff
}

// Update is a check sum when a word is another one.
func Update(sum, old, word uint16) uint16 {
	return ^fold(uint64(^sum) + uint64(^old) + uint64(word))
}

// Crc is the check sum of a datagram's parts, one behind the other.
func Crc(parts ...[]byte) uint32 {
	c := ^uint32(0)
	for _, part := range parts {
		for _, b := range part {
			c ^= uint32(b)
			c = c>>4 ^ fours[c&15]
			c = c>>4 ^ fours[c&15]
		}
	}
	return ^c
}

// Seal is bytes and behind them their sum, the lowest byte first.
func Seal(b []byte) []byte {
	seal := lay(Crc(b))
	out := make([]byte, len(b)+tail)
	copy(out, b)
	copy(out[len(b):], seal[:])
	return out
}

// Open is the bytes that were sealed.
func Open(b []byte) ([]byte, api.Errno) {
	n := len(b) - tail
	if n < 0 {
		return nil, api.ErrShort
	}
	if [tail]byte(b[n:]) != lay(Crc(b[:n])) {
		return nil, api.ErrSum
	}
	out := make([]byte, n)
	copy(out, b)
	return out, api.OK
}

// total adds the words of all parts. 64 bits hold it without a carry lost: there are fewer than 2^48 words.
func total(parts [][]byte) uint64 {
	var sum uint64
	for _, part := range parts {
		for i := range len(part) / 2 {
			sum += uint64(part[2*i])<<8 | uint64(part[2*i+1])
		}
		if len(part)%2 == 1 {
			sum += uint64(part[len(part)-1]) << 8
		}
	}
	return sum
}

// fold adds what stands above 16 bits to these, till nothing does.
func fold(sum uint64) uint16 {
	for sum > 0xffff {
		sum = sum>>16 + sum&0xffff
	}
	return uint16(sum)
}

// lay is a great sum as bytes, the lowest one first.
func lay(sum uint32) [tail]byte {
	var out [tail]byte
	for i := range tail {
		out[i] = byte(sum >> (8 * i))
	}
	return out
}
