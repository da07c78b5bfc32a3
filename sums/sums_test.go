package sums_test

import (
	"bytes"
	"hash/crc32"
	"testing"

	"flume/api"
	"flume/sums"
)

// pattern is n bytes that look like chance and are the same each time.
func pattern(n int, from uint32) []byte {
	b := make([]byte, n)
	for i := range b {
		from = from*1664525 + 1013904223
		b[i] = byte(from >> 24)
	}
	return b
}

// plainInet reckons modulo 65535, where adding with carries leaves 0 for nothing but noughts.
func plainInet(parts ...[]byte) uint16 {
	rest, any := 0, false
	for _, p := range parts {
		for i, b := range p {
			any = any || b != 0
			if i%2 == 0 {
				rest += 256 * int(b)
			} else {
				rest += int(b)
			}
			rest %= 65535
		}
	}
	if any && rest == 0 {
		rest = 65535
	}
	return uint16(65535 - rest)
}

// plainCrc goes bit by bit, as the chapter tells it.
func plainCrc(b []byte) uint32 {
	c := uint32(0xffffffff)
	for _, x := range b {
		c ^= uint32(x)
		for i := 0; i < 8; i++ {
			low := c & 1
			c >>= 1
			if low == 1 {
				c ^= 0xedb88320
			}
		}
	}
	return ^c
}

// behind is a slice with spare room, and that room, which no call may touch.
func behind(b []byte) (short, spare []byte) {
	whole := append(bytes.Clone(b), bytes.Repeat([]byte{0xa5}, 16)...)
	return whole[:len(b)], whole[len(b):]
}

func untouched(spare []byte) bool {
	return bytes.Equal(spare, bytes.Repeat([]byte{0xa5}, 16))
}

func TestP1_1Inet(t *testing.T) {
	ones := []byte{0xff, 0xff}
	for _, x := range []struct {
		parts [][]byte
		want  uint16
	}{
		{[][]byte{{0, 1, 0xf2, 3, 0xf4, 0xf5, 0xf6, 0xf7}}, 0x220d},
		{nil, 0xffff},
		{[][]byte{nil}, 0xffff},
		{[][]byte{{}, nil, {}}, 0xffff},
		{[][]byte{{0, 0, 0}}, 0xffff},
		{[][]byte{{1}}, 0xfeff},
		{[][]byte{{0, 1}}, 0xfffe},
		{[][]byte{{1, 2, 3}}, 0xfbfd},
		{[][]byte{{1}, {2}}, 0xfcff},
		{[][]byte{{1, 2}}, 0xfefd},
		{[][]byte{{1}, nil, {2, 3}}, 0xfcfc},
		{[][]byte{ones}, 0},
		{[][]byte{ones, ones}, 0},
		{[][]byte{ones, {0, 1}}, 0xfffe},
		{[][]byte{ones, ones, {0, 1}}, 0xfffe}, // 1ffff: the carry has one of its own
		{[][]byte{{0x80, 0}, {0x80, 0}}, 0xfffe},
	} {
		if n := sums.Inet(x.parts...); n != x.want {
			t.Errorf("Inet(%x): %04x, not %04x", x.parts, n, x.want)
		}
	}
}

func TestP1_1InetOfManyWords(t *testing.T) {
	for n := range 70 {
		b := pattern(n, uint32(n))
		for cut := 0; cut <= n; cut++ {
			if got, want := sums.Inet(b[:cut], b[cut:]), plainInet(b[:cut], b[cut:]); got != want {
				t.Fatalf("%x cut at %d: %04x, not %04x", b, cut, got, want)
			}
		}
	}
	// Words that come to more than 32 bits.
	long := bytes.Repeat([]byte{0xff, 0xfe}, 100000)
	if got, want := sums.Inet(long, long[1:]), plainInet(long, long[1:]); got != want {
		t.Fatalf("%04x, not %04x", got, want)
	}
}

func TestP1_1Valid(t *testing.T) {
	for _, x := range []struct {
		parts [][]byte
		want  bool
	}{
		{nil, true},
		{[][]byte{nil, {}}, true},
		{[][]byte{{0}}, true},
		{[][]byte{{0, 0, 0}}, true},
		{[][]byte{{0xff, 0xff}}, true},
		{[][]byte{{0xff, 0xff}, {0xff, 0xff}}, true},
		{[][]byte{{0xff}, {0, 0xff}}, true},
		{[][]byte{{0xff, 0xff, 0xff}, {0, 0xff}}, true},
		{[][]byte{{0, 1, 0xf2, 3, 0xf4, 0xf5, 0xf6, 0xf7, 0x22, 0x0d}}, true},
		{[][]byte{{0, 1, 0xf2, 3, 0xf4, 0xf5, 0xf6, 0xf7, 0x22, 0x0e}}, false},
		{[][]byte{{1}}, false},
		{[][]byte{{0, 1}}, false},
		{[][]byte{{0xff, 0xfe}}, false},
		{[][]byte{{0xff}, {0xff}}, false},
		{[][]byte{{0xff, 0xff}, {0, 1}}, false},
	} {
		if got := sums.Valid(x.parts...); got != x.want {
			t.Errorf("Valid(%x): %v", x.parts, got)
		}
	}
	for n := range 40 {
		b := pattern(n, uint32(n)+7)
		rest := plainInet(b)
		if got, want := sums.Valid(b), rest == 0 || rest == 0xffff; got != want {
			t.Errorf("Valid(%x): %v", b, got)
		}
	}
}

func TestP1_1Update(t *testing.T) {
	if n := sums.Update(0xdd2f, 0x5555, 0x3285); n != 0 {
		t.Errorf("%04x, not 0000", n)
	}
	edges := []uint16{0, 1, 2, 0x00ff, 0x0100, 0x1234, 0x7fff, 0x8000, 0x8001, 0xfffd, 0xfffe, 0xffff}
	for _, sum := range edges {
		for _, old := range edges {
			for _, word := range edges {
				var three []byte
				for _, n := range []uint16{65535 - sum, 65535 - old, word} {
					three = append(three, byte(n>>8), byte(n))
				}
				if got, want := sums.Update(sum, old, word), plainInet(three); got != want {
					t.Fatalf("Update(%04x, %04x, %04x): %04x, not %04x", sum, old, word, got, want)
				}
			}
		}
	}
}

func TestP1_2Crc(t *testing.T) {
	for _, x := range []struct {
		parts [][]byte
		want  uint32
	}{
		{nil, 0},
		{[][]byte{nil, {}}, 0},
		{[][]byte{[]byte("123456789")}, 0xcbf43926},
		{[][]byte{[]byte("1234"), nil, []byte("5678"), []byte("9")}, 0xcbf43926},
		{[][]byte{{0}}, 0xd202ef8d},
		{[][]byte{{0xff, 0xff, 0xff, 0xff}}, 0xffffffff},
	} {
		if got := sums.Crc(x.parts...); got != x.want {
			t.Errorf("Crc(%x): %08x, not %08x", x.parts, got, x.want)
		}
	}
	for i := range 256 {
		if got, want := sums.Crc([]byte{byte(i)}), plainCrc([]byte{byte(i)}); got != want {
			t.Errorf("byte %d: %08x, not %08x", i, got, want)
		}
	}
	for n := range 80 {
		b := pattern(n, uint32(n)+3)
		want := plainCrc(b)
		if want != crc32.ChecksumIEEE(b) {
			t.Fatal("the test's own sum is wrong")
		}
		for cut := 0; cut <= n; cut++ {
			if got := sums.Crc(b[:cut], b[cut:]); got != want {
				t.Fatalf("%x cut at %d: %08x, not %08x", b, cut, got, want)
			}
		}
	}
}

func TestP1_2Seal(t *testing.T) {
	if got := sums.Seal([]byte("123456789")); !bytes.Equal(got, append([]byte("123456789"), 0x26, 0x39, 0xf4, 0xcb)) {
		t.Errorf("%x", got)
	}
	for _, b := range [][]byte{nil, {}} {
		if got := sums.Seal(b); !bytes.Equal(got, []byte{0, 0, 0, 0}) {
			t.Errorf("of nothing: %x", got)
		}
	}
	for n := range 40 {
		b := pattern(n, uint32(n)+11)
		c := plainCrc(b)
		want := append(bytes.Clone(b), byte(c), byte(c>>8), byte(c>>16), byte(c>>24))
		if got := sums.Seal(b); !bytes.Equal(got, want) {
			t.Errorf("%x, not %x", got, want)
		}
	}
}

func TestP1_2Open(t *testing.T) {
	for _, x := range []struct {
		b    []byte
		want []byte
		e    api.Errno
	}{
		{nil, nil, api.ErrShort},
		{[]byte{}, nil, api.ErrShort},
		{[]byte{0}, nil, api.ErrShort},
		{[]byte{0, 0, 0}, nil, api.ErrShort},
		{[]byte{1, 2, 3}, nil, api.ErrShort},
		{[]byte{0, 0, 0, 0}, nil, api.OK},
		{[]byte{1, 0, 0, 0}, nil, api.ErrSum},
		{[]byte{0, 0, 0, 1}, nil, api.ErrSum},
		{append([]byte("123456789"), 0x26, 0x39, 0xf4, 0xcb), []byte("123456789"), api.OK},
		{append([]byte("123456789"), 0xcb, 0xf4, 0x39, 0x26), nil, api.ErrSum},
		{append([]byte("123456788"), 0x26, 0x39, 0xf4, 0xcb), nil, api.ErrSum},
	} {
		got, e := sums.Open(x.b)
		if e != x.e || !bytes.Equal(got, x.want) {
			t.Errorf("Open(%x): %x, %d; not %x, %d", x.b, got, int(e), x.want, int(x.e))
		}
	}
}

func TestMemoryIsNew(t *testing.T) {
	short, spare := behind([]byte("abc"))
	sealed := sums.Seal(short)
	if string(short) != "abc" || !untouched(spare) {
		t.Fatalf("Seal changed what it was given: %x %x", short, spare)
	}
	short[0] = 'x'
	if string(sealed[:3]) != "abc" {
		t.Fatal("Seal shares what it was given")
	}

	given, room := behind(sealed)
	before := bytes.Clone(given)
	opened, e := sums.Open(given)
	if e != api.OK || string(opened) != "abc" {
		t.Fatal(opened, e)
	}
	opened[1] = 'y'
	_ = append(opened, 1, 2, 3, 4, 5)
	if !bytes.Equal(given, before) || !untouched(room) {
		t.Fatal("Open shares what it was given")
	}

	odd, rest := behind([]byte{1, 2, 3})
	sums.Inet(odd, odd)
	sums.Valid(odd, odd)
	sums.Crc(odd, odd)
	if !bytes.Equal(odd, []byte{1, 2, 3}) || !untouched(rest) {
		t.Fatal("a sum changed what it was given")
	}
}

func word(b []byte, place int) uint16 {
	return uint16(b[2*place])<<8 | uint16(b[2*place+1])
}

func setWord(b []byte, place int, n uint16) {
	b[2*place], b[2*place+1] = byte(n>>8), byte(n)
}

func TestP1_3Holds(t *testing.T) {
	for n := 1; n <= 12; n++ {
		for _, b := range [][]byte{pattern(2*n, uint32(n)), make([]byte, 2*n), bytes.Repeat([]byte{0xff}, 2*n)} {
			for at := range n {
				holds(t, bytes.Clone(b), at)
			}
		}
	}
}

// holds lays the check sum at a place, moves the words, and puts others in their places.
func holds(t *testing.T, b []byte, at int) {
	setWord(b, at, 0)
	setWord(b, at, sums.Inet(b))
	if !sums.Valid(b) {
		t.Fatalf("%x is not valid", b)
	}
	n := len(b) / 2
	for turn := range n {
		if moved := append(bytes.Clone(b[2*turn:]), b[:2*turn]...); !sums.Valid(moved) {
			t.Fatalf("%x is not valid", moved)
		}
	}
	for place := range n {
		for _, with := range []uint16{0, 1, 0x8000, 0xfffe, 0xffff, 0x1234} {
			if place == at {
				continue
			}
			other := bytes.Clone(b)
			setWord(other, at, sums.Update(word(b, at), word(b, place), with))
			setWord(other, place, with)
			if !sums.Valid(other) {
				t.Fatalf("%x, with %04x at %d, is not valid: %x", b, with, place, other)
			}
		}
	}
}

func TestP1_4ThereAndBack(t *testing.T) {
	for n := range 300 {
		b := pattern(n, uint32(n)+5)
		sealed := sums.Seal(b)
		opened, e := sums.Open(sealed)
		if e != api.OK || !bytes.Equal(opened, b) {
			t.Fatalf("%x: %x, %d", b, opened, int(e))
		}
		if again := sums.Seal(opened); !bytes.Equal(again, sealed) {
			t.Fatalf("%x, not %x", again, sealed)
		}
	}
}

func TestP1_5Burst(t *testing.T) {
	sealed := sums.Seal(pattern(21, 9))
	last := 8 * len(sealed)
	for from := range last {
		for _, mask := range []uint32{1, 3, 5, 0x80000001, 0xffffffff, 0xdeadbeef, 0xaaaaaaab, 0x00010001, 0xedb88321} {
			burst(t, sealed, from, mask)
		}
		for i := range uint32(20) {
			burst(t, sealed, from, (i+1)*2654435761|1)
		}
	}
}

// burst turns the bits of a mask from a bit on, as far as there are such.
func burst(t *testing.T, sealed []byte, from int, mask uint32) {
	b := bytes.Clone(sealed)
	for i := range 32 {
		if at := from + i; mask>>i&1 == 1 && at < 8*len(b) {
			b[at/8] ^= 1 << (at % 8)
		}
	}
	if got, e := sums.Open(b); e != api.ErrSum || len(got) != 0 {
		t.Fatalf("bits %08x from %d on: %x, %d", mask, from, got, int(e))
	}
}

func TestP1_6SumsOfSums(t *testing.T) {
	for n := range 60 {
		x, y, z := pattern(n, 1), pattern(n, 2), pattern(n, 3)
		all := make([]byte, n)
		for i := range n {
			all[i] = x[i] ^ y[i] ^ z[i]
		}
		if got, want := sums.Crc(all), sums.Crc(x)^sums.Crc(y)^sums.Crc(z); got != want {
			t.Fatalf("%d bytes: %08x, not %08x", n, got, want)
		}
	}
}
