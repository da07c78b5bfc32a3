package packet_test

import (
	"bytes"
	"encoding/binary"
	"math"
	"reflect"
	"slices"
	"testing"

	"flume/api"
	"flume/packet"
)

// good is a packet that may be, with something in every field.
func good() api.Packet {
	return api.Packet{
		Src: 1, Dst: 4, Sport: 1000, Dport: 80, Seq: 0x01020304, Ack: 0xf1f2f3f4,
		Flags: api.ACK | api.FIN, Window: 0x0403, Probe: 0x0123456789, Origin: 0x1234, Data: []byte("text"),
	}
}

// chance is bytes that look like chance and are the same each time.
func chance(from uint64) func(n int) []byte {
	return func(n int) []byte {
		b := make([]byte, n)
		for i := range b {
			from = from*6364136223846793005 + 1442695040888963407
			b[i] = byte(from >> 56)
		}
		return b
	}
}

// some is packets that may be, each field at its least and its greatest, with and without options and data.
func some() []api.Packet {
	out := []api.Packet{
		good(),
		{Src: 1, Dst: 2, Sport: 1, Dport: 1},
		{Src: 4, Dst: 3, Sport: 65535, Dport: 65535, Seq: math.MaxUint32, Ack: math.MaxUint32, Flags: 15, Window: 65535, Probe: 1 << 40, Origin: 65535, Data: bytes.Repeat([]byte{255}, 128)},
		{Src: 2, Dst: 1, Sport: 80, Dport: 1000, Flags: 3, Probe: 1},
		{Src: 2, Dst: 1, Sport: 80, Dport: 1000, Flags: 8, Origin: 1},
		{Src: 3, Dst: 2, Sport: 80, Dport: 1000, Probe: 1, Origin: 1, Data: []byte{0}},
		{Src: 3, Dst: 2, Sport: 80, Dport: 1000, Data: []byte{0, 0, 0}},
		{Src: 3, Dst: 2, Sport: 80, Dport: 1000, Data: []byte{1, 10, 0, 0, 0, 0, 0, 0, 0, 7}}, // data that looks like an option
	}
	next := chance(4)
	for i := range 64 {
		r := next(32)
		p := api.Packet{
			Src: 1 + i%4, Dst: 1 + (i%4+1+i/4%3)%4, Sport: 1 + int(r[0]), Dport: 1 + 256*int(r[1]),
			Seq: binary.BigEndian.Uint32(r[2:]), Ack: binary.BigEndian.Uint32(r[6:]),
			Flags: i % 16, Window: int(binary.BigEndian.Uint16(r[10:])), Data: next(i * 2),
		}
		if i%2 == 0 {
			p.Probe = int(binary.BigEndian.Uint64(append([]byte{0, 0, 0}, r[12:17]...)))
		}
		if i%3 == 0 {
			p.Origin = 1 + int(r[17])
		}
		out = append(out, p)
	}
	return out
}

// never is packets that may not be, each for one reason.
func never() []api.Packet {
	var out []api.Packet
	for _, spoil := range []func(p *api.Packet){
		func(p *api.Packet) { p.Src = 0 },
		func(p *api.Packet) { p.Src = 5 },
		func(p *api.Packet) { p.Src = -1 },
		func(p *api.Packet) { p.Src = 257 },
		func(p *api.Packet) { p.Src = math.MinInt },
		func(p *api.Packet) { p.Dst = 0 },
		func(p *api.Packet) { p.Dst = 5 },
		func(p *api.Packet) { p.Dst = -3 },
		func(p *api.Packet) { p.Dst = 258 },
		func(p *api.Packet) { p.Dst = math.MaxInt },
		func(p *api.Packet) { p.Src, p.Dst = 1, 1 },
		func(p *api.Packet) { p.Src, p.Dst = 4, 4 },
		func(p *api.Packet) { p.Sport = 0 },
		func(p *api.Packet) { p.Sport = -1 },
		func(p *api.Packet) { p.Sport = 65536 },
		func(p *api.Packet) { p.Sport = math.MaxInt },
		func(p *api.Packet) { p.Dport = 0 },
		func(p *api.Packet) { p.Dport = -1 },
		func(p *api.Packet) { p.Dport = 65536 },
		func(p *api.Packet) { p.Dport = math.MinInt },
		func(p *api.Packet) { p.Flags = -1 },
		func(p *api.Packet) { p.Flags = 16 },
		func(p *api.Packet) { p.Flags = 1 << 62 },
		func(p *api.Packet) { p.Flags = math.MinInt },
		func(p *api.Packet) { p.Window = -1 },
		func(p *api.Packet) { p.Window = 65536 },
		func(p *api.Packet) { p.Probe = -1 },
		func(p *api.Packet) { p.Probe = 1<<40 + 1 },
		func(p *api.Packet) { p.Probe = math.MinInt },
		func(p *api.Packet) { p.Probe = math.MaxInt },
		func(p *api.Packet) { p.Origin = -1 },
		func(p *api.Packet) { p.Origin = 65536 },
		func(p *api.Packet) { p.Data = make([]byte, 129) },
		func(p *api.Packet) { p.Data = make([]byte, 5000) },
	} {
		p := good()
		spoil(&p)
		out = append(out, p)
	}
	return append(out, api.Packet{})
}

// plainSum reckons the small sum modulo 65535; a header has words that are not 0.
func plainSum(b []byte) uint16 {
	rest := 0
	for i, x := range b {
		if i%2 == 0 {
			rest += 256 * int(x)
		} else {
			rest += int(x)
		}
	}
	return uint16(65535-rest%65535) % 65535
}

// sealed is bytes with a sum that is right.
func sealed(b []byte) []byte {
	out := bytes.Clone(b)
	out[18], out[19] = 0, 0
	binary.BigEndian.PutUint16(out[18:], plainSum(out))
	return out
}

// plain lays a packet as the chapter's table tells it.
func plain(p api.Packet) []byte {
	var options []byte
	if p.Probe != 0 {
		options = binary.BigEndian.AppendUint64(append(options, 1, 10), uint64(p.Probe))
	}
	if p.Origin != 0 {
		options = binary.BigEndian.AppendUint16(append(options, 2, 4), uint16(p.Origin))
	}
	return raw(p, options, p.Data)
}

// raw is bytes with the header of a packet, any options, any data, and a sum that is right.
func raw(p api.Packet, options, data []byte) []byte {
	b := make([]byte, 22)
	b[0], b[1], b[2], b[3] = 0x46, byte(p.Src), byte(p.Dst), byte(p.Flags)
	binary.BigEndian.PutUint16(b[4:], uint16(p.Sport))
	binary.BigEndian.PutUint16(b[6:], uint16(p.Dport))
	binary.BigEndian.PutUint32(b[8:], p.Seq)
	binary.BigEndian.PutUint32(b[12:], p.Ack)
	binary.BigEndian.PutUint16(b[16:], uint16(p.Window))
	b[20] = byte(len(options))
	return sealed(slices.Concat(b, options, data))
}

// same tells whether two packets are one; no data is the same, nil or empty.
func same(p, q api.Packet) bool {
	data := bytes.Equal(p.Data, q.Data)
	p.Data, q.Data = nil, nil
	return data && reflect.DeepEqual(p, q)
}

// put is a packet's bytes, which there must be.
func put(t *testing.T, p api.Packet) []byte {
	t.Helper()
	b, e := packet.Put(p)
	if e != api.OK {
		t.Fatalf("Put(%v): %d", p, int(e))
	}
	return b
}

// refused asks Get of bytes, and whether it answers just that error.
func refused(t *testing.T, why string, b []byte, want api.Errno) {
	t.Helper()
	p, e := packet.Get(b)
	if e != want || !same(p, api.Packet{}) {
		t.Errorf("%s: Get(%x): %v, %d, not %d", why, b, p, int(e), int(want))
	}
}

func TestP4_1Check(t *testing.T) {
	for _, p := range some() {
		if e := packet.Check(p); e != api.OK {
			t.Errorf("Check(%v): %d", p, int(e))
		}
	}
	for _, p := range never() {
		if e := packet.Check(p); e != api.ErrPacket {
			t.Errorf("Check(%v): %d", p, int(e))
		}
	}
	for src := -1; src <= 6; src++ {
		for dst := -1; dst <= 6; dst++ {
			p := good()
			p.Src, p.Dst = src, dst
			want := api.ErrPacket
			if 1 <= src && src <= 4 && 1 <= dst && dst <= 4 && src != dst {
				want = api.OK
			}
			if e := packet.Check(p); e != want {
				t.Errorf("%d to %d: %d", src, dst, int(e))
			}
		}
	}
}

func TestP4_1Put(t *testing.T) {
	p := api.Packet{Src: 1, Dst: 2, Sport: 1000, Dport: 80, Seq: 5, Flags: api.SYN, Window: 9}
	want := []byte{0x46, 1, 2, 1, 3, 0xe8, 0, 0x50, 0, 0, 0, 5, 0, 0, 0, 0, 0, 9, 0xb3, 0xb7, 0, 0}
	if b := put(t, p); !bytes.Equal(b, want) {
		t.Errorf("%x, not %x", b, want)
	}
	p.Probe, p.Origin, p.Data = 0x0123456789, 0x1234, []byte{7, 8, 9}
	b := put(t, p)
	if want := []byte{14, 0, 1, 10, 0, 0, 0, 1, 0x23, 0x45, 0x67, 0x89, 2, 4, 0x12, 0x34, 7, 8, 9}; !bytes.Equal(b[20:], want) {
		t.Errorf("%x, not %x", b[20:], want)
	}
	for _, p := range some() {
		if b, want := put(t, p), plain(p); !bytes.Equal(b, want) {
			t.Errorf("Put(%v): %x, not %x", p, b, want)
		}
	}
	for _, p := range never() {
		if b, e := packet.Put(p); len(b) != 0 || e != api.ErrPacket {
			t.Errorf("Put(%v): %x, %d", p, b, int(e))
		}
	}
}

func TestP4_1Get(t *testing.T) {
	for _, want := range some() {
		if p, e := packet.Get(plain(want)); e != api.OK || !same(p, want) {
			t.Errorf("%v, %d, not %v", p, int(e), want)
		}
	}
}

func TestP4_1GetShort(t *testing.T) {
	b := plain(good())
	for n := range 22 + 14 {
		refused(t, "cut", b[:n], api.ErrShort)
	}
	refused(t, "nothing", nil, api.ErrShort)
	refused(t, "21 bytes with a right sum", make([]byte, 21), api.ErrShort)
	p := good()
	for _, n := range []int{1, 10, 100, 255} {
		short := raw(p, make([]byte, n), nil)
		refused(t, "options cut, with a right sum", sealed(short[:len(short)-1]), api.ErrShort)
		refused(t, "options cut, with another sum", short[:len(short)-1], api.ErrShort)
	}
}

func TestP4_1GetSum(t *testing.T) {
	for _, p := range some() {
		b := plain(p)
		sum := binary.BigEndian.Uint16(b[18:])
		for _, other := range []uint16{sum + 1, sum - 1, sum ^ 0x8000, ^sum} {
			if other%65535 == sum%65535 {
				continue
			}
			binary.BigEndian.PutUint16(b[18:], other)
			refused(t, "another sum", b, api.ErrSum)
		}
	}
	long := raw(good(), nil, make([]byte, 129))
	long[30] ^= 1
	refused(t, "too long, and another sum", long, api.ErrSum)
	form := plain(good())
	form[0] ^= 1
	refused(t, "another form, and another sum", form, api.ErrSum)
	cut := plain(good())
	refused(t, "data cut", cut[:len(cut)-1], api.ErrSum)
}

func TestP4_1GetLong(t *testing.T) {
	p := good()
	for _, options := range [][]byte{nil, {2, 4, 0, 5}, make([]byte, 255)} {
		refused(t, "129 bytes", raw(p, options, make([]byte, 129)), api.ErrLong)
		refused(t, "5000 bytes", raw(p, options, make([]byte, 5000)), api.ErrLong)
	}
	if q, e := packet.Get(raw(p, nil, make([]byte, 128))); e != api.OK || len(q.Data) != 128 {
		t.Error(len(q.Data), e)
	}
	p.Src = 0
	refused(t, "too long, and another form", raw(p, nil, make([]byte, 129)), api.ErrLong)
	refused(t, "as long as may be, and another form", raw(p, nil, make([]byte, 128)), api.ErrForm)
}

func TestP4_1GetFormOfTheHeader(t *testing.T) {
	for place, values := range map[int][]byte{
		0:  {0, 0x45, 0x47, 0xff},
		1:  {0, 4, 5, 0x81, 255}, // 4 is its Dst
		2:  {0, 1, 5, 255},       // 1 is its Src
		3:  {16, 17, 0x86, 255},
		21: {1, 2, 255},
	} {
		for _, x := range values {
			b := plain(good())
			b[place] = x
			refused(t, "header", sealed(b), api.ErrForm)
		}
	}
	for _, place := range []int{4, 6} {
		b := plain(good())
		b[place], b[place+1] = 0, 0
		refused(t, "port 0", sealed(b), api.ErrForm)
	}
	for _, n := range []int{22, 23, 40, 150} {
		refused(t, "noughts", make([]byte, n), api.ErrForm)
	}
}

func TestP4_1GetFormOfTheOptions(t *testing.T) {
	probe, origin := []byte{1, 10, 0, 0, 0, 0, 0, 0, 0, 7}, []byte{2, 4, 0, 5}
	for _, options := range [][]byte{nil, probe, origin, slices.Concat(probe, origin)} {
		for _, data := range [][]byte{nil, {9}, probe, origin} {
			if p, e := packet.Get(raw(good(), options, data)); e != api.OK || !bytes.Equal(p.Data, data) {
				t.Errorf("options %x, data %x: %v, %d", options, data, p, int(e))
			}
		}
	}
	for _, options := range [][]byte{
		{0},
		{1},
		{2, 4},
		{0, 0, 0, 0},
		{1, 10, 0, 0, 0, 0, 0, 0, 0, 0},    // a probe 0 is none
		{1, 10, 0, 0, 1, 0, 0, 0, 0, 1},    // above 2^40
		{1, 10, 0x80, 0, 0, 0, 0, 0, 0, 7}, // below 0, if it were signed
		{1, 10, 255, 255, 255, 255, 255, 255, 255, 255},
		{1, 9, 0, 0, 0, 0, 0, 0, 0, 7},
		{1, 0, 0, 0, 0, 0, 0, 0, 0, 7},
		{1, 9, 0, 0, 0, 0, 0, 0, 7},
		{1, 11, 0, 0, 0, 0, 0, 0, 0, 0, 7},
		{3, 10, 0, 0, 0, 0, 0, 0, 0, 7},
		{2, 4, 0, 0}, // an origin 0 is none
		{2, 3, 0, 5},
		{2, 3, 5},
		{3, 4, 0, 5},
		{1, 4, 0, 5},
		{2, 10, 0, 0, 0, 0, 0, 0, 0, 7},
		slices.Concat(origin, probe),
		slices.Concat(probe, probe),
		slices.Concat(origin, origin),
		slices.Concat(probe, origin, probe),
		slices.Concat(probe, origin, origin),
		slices.Concat(probe, []byte{0}),
		slices.Concat(origin, []byte{0}),
		slices.Concat([]byte{0}, probe),
		slices.Concat(probe, []byte{2, 4, 0, 0}),
		slices.Concat([]byte{1, 10, 0, 0, 0, 0, 0, 0, 0, 0}, origin),
		make([]byte, 255),
	} {
		refused(t, "options", raw(good(), options, nil), api.ErrForm)
		refused(t, "options", raw(good(), options, []byte("data")), api.ErrForm)
	}
}

// A sum that is 0 has another form, in which all words still come to 65535 when they are added with carries.
func TestP4_1GetFormOfTheSum(t *testing.T) {
	p := good()
	p.Window = 0
	p.Window = int(binary.BigEndian.Uint16(plain(p)[18:]))
	b := put(t, p)
	if b[18] != 0 || b[19] != 0 {
		t.Fatalf("%x: the sum is not 0", b)
	}
	if q, e := packet.Get(b); e != api.OK || !same(q, p) {
		t.Fatal(q, e)
	}
	b[18], b[19] = 255, 255
	refused(t, "another form of the sum", b, api.ErrForm)
}

func TestP4_2Takes(t *testing.T) {
	for _, x := range []struct{ flags, data, want int }{
		{0, 0, 0},
		{api.SYN, 0, 1},
		{api.FIN, 0, 1},
		{api.ACK, 0, 0},
		{api.RST, 0, 0},
		{api.ACK | api.RST, 5, 5},
		{api.SYN | api.FIN, 0, 2},
		{15, 128, 130},
		{api.FIN | api.ACK, 7, 8},
		{api.SYN | api.ACK, 7, 8},
		{16, 3, 3},
		{16 | api.FIN, 3, 4},
		{1 << 40, 300, 300},
		{math.MaxInt, 300, 302},
		{-1, 300, 302},
		{-2, 1, 2},
		{-8, 1, 1},
		{math.MinInt, 1, 1},
		{math.MinInt | api.SYN, 1, 2},
	} {
		p := api.Packet{Flags: x.flags, Data: make([]byte, x.data)}
		if n := packet.Takes(p); n != x.want {
			t.Errorf("flags %d, %d bytes: %d, not %d", x.flags, x.data, n, x.want)
		}
		q := good()
		q.Flags, q.Data = p.Flags, p.Data
		if n := packet.Takes(q); n != x.want {
			t.Errorf("flags %d, %d bytes: %d, not %d", x.flags, x.data, n, x.want)
		}
	}
}

func TestP4_2Probed(t *testing.T) {
	for _, p := range some() {
		for _, n := range []int{0, 1, 77, 1 << 32, 1<<40 - 1, 1 << 40} {
			want := p
			want.Probe = n
			if b, e := packet.Probed(plain(p), n); e != api.OK || !bytes.Equal(b, plain(want)) {
				t.Errorf("Probed(%x, %d): %x, %d", plain(p), n, b, int(e))
			}
		}
		for _, n := range []int{-1, 1<<40 + 1, math.MaxInt, math.MinInt} {
			if b, e := packet.Probed(plain(p), n); e != api.ErrPacket || len(b) != 0 {
				t.Errorf("Probed(%x, %d): %x, %d", plain(p), n, b, int(e))
			}
		}
	}
	turned, bad := plain(good()), good()
	turned[9] ^= 1
	bad.Sport = 0
	for _, n := range []int{0, 7, -1, 1<<40 + 1} {
		for _, x := range []struct {
			b []byte
			e api.Errno
		}{
			{nil, api.ErrShort},
			{plain(good())[:21], api.ErrShort},
			{turned, api.ErrSum},
			{raw(good(), nil, make([]byte, 129)), api.ErrLong},
			{plain(bad), api.ErrForm},
		} {
			if b, e := packet.Probed(x.b, n); e != x.e || len(b) != 0 {
				t.Errorf("Probed(%x, %d): %x, %d, not %d", x.b, n, b, int(e), int(x.e))
			}
		}
	}
}

func TestP4_2Back(t *testing.T) {
	for _, p := range slices.Concat(some(), never()) {
		want := api.Packet{Src: p.Dst, Dst: p.Src, Sport: p.Dport, Dport: p.Sport}
		if got := packet.Back(p); !same(got, want) {
			t.Errorf("Back(%v): %v", p, got)
		}
	}
}

func TestP4_2Refuse(t *testing.T) {
	const top = math.MaxUint32
	five := []byte("12345")
	for _, x := range []struct {
		flags    int
		seq, ack uint32
		data     []byte
		wantSeq  uint32
		wantAck  uint32
	}{
		{api.SYN, 5, 0, nil, 0, 6},
		{api.SYN, 5, 9, nil, 0, 6},
		{api.ACK, 5, 9, nil, 9, 5},
		{api.ACK, 5, 9, five, 9, 10},
		{api.ACK | api.SYN, 5, 9, five, 9, 11},
		{api.ACK | api.SYN | api.FIN, 5, 9, five, 9, 12},
		{0, 5, 9, nil, 0, 5},
		{api.FIN, top, 9, nil, 0, 0},
		{api.SYN, top, 9, five, 0, 5},
		{api.ACK, top - 2, top, five, top, 2},
		{16, 5, 9, five, 0, 10},
		{16 | api.ACK, 5, 9, five, 9, 10},
		{math.MinInt | api.ACK | api.SYN, 5, 9, nil, 9, 6},
		{-9, 5, 9, five, 9, 12}, // all but RST
		{api.SYN, 5, 9, make([]byte, 1000), 0, 1006},
	} {
		for _, from := range []api.Packet{good(), {Src: 5, Dst: -5, Sport: math.MinInt, Dport: math.MaxInt, Probe: -1}} {
			p := from
			p.Flags, p.Seq, p.Ack, p.Data = x.flags, x.seq, x.ack, x.data
			want := api.Packet{Src: p.Dst, Dst: p.Src, Sport: p.Dport, Dport: p.Sport, Seq: x.wantSeq, Ack: x.wantAck, Flags: 10}
			if got, ok := packet.Refuse(p); !ok || !same(got, want) {
				t.Errorf("Refuse(%v): %v, %v, not %v", p, got, ok, want)
			}
		}
	}
	for _, flags := range []int{8, 9, 10, 12, 15, 24, -1, -8, math.MaxInt, math.MinInt | 8} {
		p := good()
		p.Flags = flags
		if got, ok := packet.Refuse(p); ok || !same(got, api.Packet{}) {
			t.Errorf("Refuse(%v): %v, %v", p, got, ok)
		}
	}
}

func TestP4_3ThereAndBack(t *testing.T) {
	for _, p := range some() {
		b := put(t, p)
		q, e := packet.Get(b)
		if e != api.OK || !same(p, q) {
			t.Fatalf("%v: %v, %d", p, q, int(e))
		}
		if again := put(t, q); !bytes.Equal(again, b) {
			t.Fatalf("%x: %x", b, again)
		}
	}
}

// Bytes of any kind, made near to a packet's: what is read, put again, is those bytes.
func TestP4_3OneForm(t *testing.T) {
	next, read := chance(9), 0
	for i := range 20000 {
		r := next(4)
		b := next(22 + int(r[0])%64)
		b[0], b[1], b[2], b[3], b[20], b[21] = 0x46, 1+b[1]%4, 1+b[2]%4, b[3]%16, 0, 0
		options := [][]byte{nil, {1, 10, 0, 0, 0}, {2, 4}, {1, 10, 0, 0, 0, 1, 2, 3, 4, 5, 2, 4}}[i%4]
		b[20] = byte([]int{0, 10, 4, 14}[i%4])
		copy(b[22:], options)
		b[r[1]%22] ^= r[2] & r[3] & 1
		b = sealed(b)
		p, e := packet.Get(b)
		if e != api.OK {
			if !same(p, api.Packet{}) {
				t.Fatalf("%x: %v beside %d", b, p, int(e))
			}
			continue
		}
		read++
		if again := put(t, p); !bytes.Equal(again, b) {
			t.Fatalf("%x: %x", b, again)
		}
	}
	if read < 1000 {
		t.Fatalf("only %d were a packet's", read)
	}
}

func TestP4_4Turned(t *testing.T) {
	for _, p := range some() {
		b := put(t, p)
		for place := range b {
			for mask := 1; mask < 256; mask++ {
				b[place] ^= byte(mask)
				if q, e := packet.Get(b); e == api.OK || !same(q, api.Packet{}) {
					t.Fatalf("%v with place %d turned by %02x: %v, %d", p, place, mask, q, int(e))
				}
				b[place] ^= byte(mask)
			}
		}
	}
}

func TestP4_5Probed(t *testing.T) {
	for _, p := range some() {
		b := put(t, p)
		for _, n := range []int{1, 77, 1 << 40} {
			probed, e := packet.Probed(b, n)
			if e != api.OK {
				t.Fatal(p, e)
			}
			q, e := packet.Get(probed)
			if e != api.OK || q.Probe != n {
				t.Fatal(q, e)
			}
			q.Probe = p.Probe
			if !same(p, q) {
				t.Fatalf("a probe changed %v to %v", p, q)
			}
			if back, e := packet.Probed(probed, p.Probe); e != api.OK || !bytes.Equal(back, b) {
				t.Fatalf("%x, probed and back: %x, %d", b, back, int(e))
			}
		}
	}
}

func TestP4_6Refused(t *testing.T) {
	for _, p := range slices.Concat(some(), never()) {
		for flags := -32; flags < 32; flags++ {
			p.Flags = flags
			r, ok := packet.Refuse(p)
			if ok != (flags&api.RST == 0) {
				t.Fatalf("Refuse(%v): %v", p, ok)
			}
			if q, again := packet.Refuse(r); ok && (again || !same(q, api.Packet{})) {
				t.Fatalf("%v was refused by %v", r, q)
			}
		}
	}
}

// A refusal of a packet that may be is one itself.
func TestP4_6RefusalMayBe(t *testing.T) {
	for _, p := range some() {
		if r, ok := packet.Refuse(p); ok && packet.Check(r) != api.OK {
			t.Errorf("%v may not be", r)
		}
	}
}

func TestMemoryIsNew(t *testing.T) {
	whole := bytes.Repeat([]byte{0xa5}, 40)
	p := good()
	p.Data = whole[:4]
	b := put(t, p)
	given := append(bytes.Clone(b), whole...)[:len(b)]
	spare := given[len(b):cap(given)]
	before := bytes.Clone(spare)

	q, e := packet.Get(given)
	if e != api.OK {
		t.Fatal(e)
	}
	probed, e := packet.Probed(given, 9)
	if e != api.OK {
		t.Fatal(e)
	}
	untouched := bytes.Clone(probed)
	q.Data[0] = 'x'
	_ = append(q.Data, 1, 2, 3, 4, 5, 6, 7, 8)
	if !bytes.Equal(given, b) || !bytes.Equal(spare, before) {
		t.Error("Get shares what it was given")
	}
	clear(given)
	if !bytes.Equal(probed, untouched) || !bytes.Equal(q.Data[1:], []byte{0xa5, 0xa5, 0xa5}) {
		t.Error("an answer shares what was given")
	}
	clear(b)
	_ = append(b, 1, 2, 3, 4)
	if !bytes.Equal(whole, bytes.Repeat([]byte{0xa5}, 40)) {
		t.Error("Put shares what it was given")
	}
	packet.Refuse(p)
	packet.Takes(p)
	if !bytes.Equal(whole, bytes.Repeat([]byte{0xa5}, 40)) {
		t.Error("a packet's data was changed")
	}
}
