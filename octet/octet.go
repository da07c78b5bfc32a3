// Package octet is layer 2: numbers and texts as bytes; a number's first byte tells how many follow.
package octet

import (
	"math"
	"math/bits"

	"flume/api"
)

// longest is how many bytes may follow a number's first one.
const longest = 8

// Number puts a number behind bytes.
func Number(b []byte, n int) []byte {
	return put(room(b, 1+longest), n)
}

// Numbers puts any number of them.
func Numbers(b []byte, l ...int) []byte {
	out := room(b, len(l))
	for _, n := range l {
		out = put(out, n)
	}
	return out
}

// Text puts a text: how many bytes it has, and these.
func Text(b []byte, s []byte) []byte {
	return append(put(room(b, 1+longest+len(s)), len(s)), s...)
}

// Flag puts a yes or a no.
func Flag(b []byte, yes bool) []byte {
	if yes {
		return Number(b, 1)
	}
	return Number(b, 0)
}

// room is a copy of bytes, in memory with room for some more.
func room(b []byte, more int) []byte {
	out := make([]byte, len(b), len(b)+more)
	copy(out, b)
	return out
}

// put lays a number behind bytes, in the memory of these.
func put(out []byte, n int) []byte {
	u := uint64(max(n, 0))
	k := follow(u)
	// Of a number with 8 bytes behind the first one nothing is left for that: u is shifted out whole.
	out = append(out, ^(byte(0xff)>>k)|byte(u>>(8*k)))
	for i := range k {
		out = append(out, byte(u>>(8*(k-1-i))))
	}
	return out
}

// follow is how many bytes stand behind a number's first one.
func follow(u uint64) int {
	for k := range longest {
		if u>>(7*(k+1)) == 0 {
			return k
		}
	}
	return longest
}

// Reader reads bytes from their beginning on.
type Reader struct {
	made bool
	rest []byte // what was not read
}

// Read is one over a copy of bytes.
func Read(b []byte) *Reader {
	return &Reader{made: true, rest: room(b, 0)}
}

// Left is how many bytes were not read.
func (r *Reader) Left() int {
	if r == nil || !r.made {
		return 0
	}
	return len(r.rest)
}

// Byte is the next byte.
func (r *Reader) Byte() (byte, api.Errno) {
	if r == nil || !r.made {
		return 0, api.ErrNil
	}
	if len(r.rest) == 0 {
		return 0, api.ErrShort
	}
	b := r.rest[0]
	r.skip(1)
	return b, api.OK
}

// Number is the next number.
func (r *Reader) Number() (int, api.Errno) {
	n, size, e := r.ahead()
	if e != api.OK {
		return 0, e
	}
	r.skip(size)
	return n, api.OK
}

// Within is the next number, from lo to hi.
func (r *Reader) Within(lo, hi int) (int, api.Errno) {
	n, size, e := r.ahead()
	if e != api.OK {
		return 0, e
	}
	if n < lo || n > hi {
		return 0, api.ErrRange
	}
	r.skip(size)
	return n, api.OK
}

// Text is the next text, of at most so many bytes.
func (r *Reader) Text(most int) ([]byte, api.Errno) {
	n, size, e := r.ahead()
	if e != api.OK {
		return nil, e
	}
	if n > max(most, 0) {
		return nil, api.ErrLong
	}
	if n > len(r.rest)-size {
		return nil, api.ErrShort
	}
	s := room(r.rest[size:size+n], 0)
	r.skip(size + n)
	return s, api.OK
}

// Flag is the next yes or no.
func (r *Reader) Flag() (bool, api.Errno) {
	n, size, e := r.ahead()
	if e != api.OK {
		return false, e
	}
	if n > 1 {
		return false, api.ErrForm
	}
	r.skip(size)
	return n == 1, api.OK
}

// End tells whether bytes are left.
func (r *Reader) End() api.Errno {
	if r == nil || !r.made {
		return api.ErrNil
	}
	if len(r.rest) > 0 {
		return api.ErrMore
	}
	return api.OK
}

// ahead is the next number, and how many bytes it has. It goes past nothing, for what is refused later must not have been read.
func (r *Reader) ahead() (n, size int, e api.Errno) {
	if r == nil || !r.made {
		return 0, 0, api.ErrNil
	}
	if len(r.rest) == 0 {
		return 0, 0, api.ErrShort
	}
	first := r.rest[0]
	k := bits.LeadingZeros8(^first)
	if len(r.rest)-1 < k {
		return 0, 0, api.ErrShort
	}
	u := uint64(first & (byte(0x7f) >> k))
	for i := range k {
		u = u<<8 | uint64(r.rest[1+i])
	}
	if u > math.MaxInt64 {
		return 0, 0, api.ErrRange
	}
	if follow(u) != k {
		return 0, 0, api.ErrForm
	}
	return int(u), 1 + k, api.OK
}

// skip goes past so many bytes, which are there.
func (r *Reader) skip(n int) {
	r.rest = r.rest[n:]
}
