package tunnel_test

import (
	"bytes"
	"encoding/binary"
	"hash/crc32"
	"math"
	"slices"
	"testing"

	"flume/api"
	"flume/tunnel"
)

const nonce = 1 << 40

// dice throws numbers that look like chance and are the same each time.
type dice uint64

func (d *dice) below(n int) int {
	*d = *d*6364136223846793005 + 1442695040888963407
	return int(*d >> 33 % dice(n))
}

// seal is bytes and their sum.
func seal(b ...byte) []byte {
	return binary.LittleEndian.AppendUint32(slices.Clone(b), crc32.ChecksumIEEE(b))
}

func same(a, b api.Frame) bool {
	return a.Kind == b.Kind && a.From == b.From && a.You == b.You && a.Seq == b.Seq && a.Ack == b.Ack && a.Bits == b.Bits && bytes.Equal(a.Body, b.Body)
}

// answers asks whether errors are those that they should be.
func answers(t *testing.T, want api.Errno, got ...api.Errno) {
	t.Helper()
	for i, e := range got {
		if e != want {
			t.Fatalf("answer %d of %d: %d, not %d", i+1, len(got), int(e), int(want))
		}
	}
}

func hello(from, you int) api.Frame {
	return api.Frame{Kind: api.FHello, From: from, You: you}
}

func data(from, you, seq int, body string) api.Frame {
	return api.Frame{Kind: api.FData, From: from, You: you, Seq: seq, Body: []byte(body)}
}

func ack(from, you, ack, bits int) api.Frame {
	return api.Frame{Kind: api.FAck, From: from, You: you, Ack: ack, Bits: bits}
}

// put is a frame that may be as bytes.
func put(t *testing.T, f api.Frame) []byte {
	t.Helper()
	b, e := tunnel.Put(f)
	if e != api.OK {
		t.Fatalf("Put of %v: %d", f, int(e))
	}
	return b
}

// made is a tunnel of a number that may be.
func made(t *testing.T, me int) *tunnel.Tunnel {
	t.Helper()
	x, e := tunnel.New(me)
	if e != api.OK || x == nil {
		t.Fatalf("New(%d): %d", me, int(e))
	}
	return x
}

// tell lets a frame come to a tunnel, and asks for what it tells.
func tell(t *testing.T, x *tunnel.Tunnel, f api.Frame, want ...string) {
	t.Helper()
	l, e := x.Take(put(t, f))
	if e != api.OK || len(l) != len(want) {
		t.Fatalf("Take of %v: %q and %d, not %q", f, l, int(e), want)
	}
	for i, b := range l {
		if string(b) != want[i] {
			t.Fatalf("Take of %v: %q, not %q", f, l, want)
		}
	}
}

// said asks for what a tunnel said since the last Out.
func said(t *testing.T, x *tunnel.Tunnel, want ...api.Frame) {
	t.Helper()
	l := x.Out()
	if len(l) != len(want) {
		t.Fatalf("%d datagrams, not %d", len(l), len(want))
	}
	for i, b := range l {
		if !bytes.Equal(b, put(t, want[i])) {
			f, e := tunnel.Get(b)
			t.Fatalf("datagram %d: %v and %d, not %v", i+1, f, int(e), want[i])
		}
	}
}

// ends asks for what can be told of a tunnel.
func ends(t *testing.T, x *tunnel.Tunnel, me, you, epoch int, up bool) {
	t.Helper()
	if x.Me() != me || x.You() != you || x.Epoch() != epoch || x.Up() != up {
		t.Fatalf("me %d, you %d, epoch %d, up %v; not %d, %d, %d, %v", x.Me(), x.You(), x.Epoch(), x.Up(), me, you, epoch, up)
	}
}

// counts asks for how much waits, and for how much there is room.
func counts(t *testing.T, x *tunnel.Tunnel, waiting, room int) {
	t.Helper()
	if x.Waiting() != waiting || x.Room() != room {
		t.Fatalf("%d wait, room for %d; not %d and %d", x.Waiting(), x.Room(), waiting, room)
	}
}

// session is a tunnel of the number 5 with a session with 7.
func session(t *testing.T) *tunnel.Tunnel {
	t.Helper()
	x := made(t, 5)
	tell(t, x, hello(7, 5))
	said(t, x, hello(5, 7))
	ends(t, x, 5, 7, 1, true)
	return x
}

// send sends messages that may be sent.
func send(t *testing.T, x *tunnel.Tunnel, bodies ...string) {
	t.Helper()
	for _, b := range bodies {
		answers(t, api.OK, x.Send([]byte(b)))
	}
}

// passes lets ticks pass.
func passes(x *tunnel.Tunnel, ticks int) {
	for range ticks {
		x.Tick()
	}
}

// letter is the message of a number.
func letter(n int) string {
	return string(rune('a' + n - 1))
}

// flights are frames with letters, of the numbers lo to hi.
func flights(lo, hi int) (l []api.Frame) {
	for n := lo; n <= hi; n++ {
		l = append(l, data(5, 7, n, letter(n)))
	}
	return l
}

// frames are some that may be.
func frames() []api.Frame {
	l := []api.Frame{data(9, 7, 1, string(make([]byte, 512))), {Kind: api.FData, From: 1, Seq: 1}}
	for _, from := range []int{1, 2, 127, 128, 1 << 21, nonce - 1, nonce} {
		for _, you := range []int{0, 1, 300, nonce} {
			l = append(l, hello(from, you))
			for _, n := range []int{1, 2, 16383, 16384, nonce - 1, nonce} {
				l = append(l, data(from, you, n, "body"), ack(from, you, n, 0), ack(from, you, 0, n&0xffff))
			}
		}
	}
	return l
}

func TestP12_1Check(t *testing.T) {
	for _, f := range frames() {
		answers(t, api.OK, tunnel.Check(f))
	}
	far := []int{math.MinInt, -1 << 40, -1, nonce + 1, math.MaxInt}
	var bad []api.Frame
	for _, f := range []api.Frame{hello(5, 7), data(5, 7, 1, "x"), data(5, 7, 1, ""), ack(5, 7, 3, 2)} {
		for _, n := range append(far, 0) {
			f := f
			f.From = n
			bad = append(bad, f)
		}
		for _, n := range far {
			f := f
			f.You = n
			bad = append(bad, f)
		}
		for _, n := range []int{math.MinInt, -1, 0, 4, 5, math.MaxInt} {
			f := f
			f.Kind = n
			bad = append(bad, f)
		}
	}
	for _, n := range append(far, 1) {
		bad = append(bad, api.Frame{Kind: api.FHello, From: 5, Seq: n}, api.Frame{Kind: api.FHello, From: 5, Ack: n}, api.Frame{Kind: api.FHello, From: 5, Bits: n})
		bad = append(bad, api.Frame{Kind: api.FData, From: 5, Seq: 1, Ack: n}, api.Frame{Kind: api.FData, From: 5, Seq: 1, Bits: n}, api.Frame{Kind: api.FAck, From: 5, Seq: n})
	}
	for _, n := range far {
		bad = append(bad, data(5, 7, n, "x"), ack(5, 7, n, 0), ack(5, 7, 0, n))
	}
	bad = append(bad, api.Frame{}, data(5, 7, 0, "x"), ack(5, 7, 0, 1<<16), data(5, 7, 1, string(make([]byte, 513))))
	bad = append(bad, api.Frame{Kind: api.FHello, From: 5, Body: []byte{1}}, api.Frame{Kind: api.FAck, From: 5, Body: []byte{1}})
	for _, f := range bad {
		answers(t, api.ErrFrame, tunnel.Check(f))
		if b, e := tunnel.Put(f); b != nil || e != api.ErrFrame {
			t.Errorf("Put of %v: %v and %d", f, b, int(e))
		}
	}
}

func TestP12_1Put(t *testing.T) {
	for _, x := range []struct {
		f api.Frame
		b []byte
	}{
		{hello(5, 7), []byte{0x55, 1, 5, 7, 0, 0, 0, 0}},
		{hello(300, 0), []byte{0x55, 1, 0x81, 0x2c, 0, 0, 0, 0, 0}},
		{data(5, 128, 16384, "xyz"), []byte{0x55, 2, 5, 0x80, 0x80, 0xc0, 0x40, 0, 0, 0, 3, 'x', 'y', 'z'}},
		{ack(nonce, 7, 9, 0xffff), []byte{0x55, 3, 0xf9, 0, 0, 0, 0, 0, 7, 0, 9, 0xc0, 0xff, 0xff, 0}},
	} {
		if b := put(t, x.f); !bytes.Equal(b, seal(x.b...)) {
			t.Errorf("Put of %v: % x, not % x", x.f, b, seal(x.b...))
		}
	}
}

func TestP12_1Get(t *testing.T) {
	for _, f := range frames() {
		if g, e := tunnel.Get(put(t, f)); e != api.OK || !same(f, g) {
			t.Errorf("%v came back as %v and %d", f, g, int(e))
		}
	}
	wrong := func(want api.Errno, b []byte) {
		t.Helper()
		if f, e := tunnel.Get(b); e != want || !same(f, api.Frame{}) {
			t.Errorf("Get of % x: %v and %d, not %d", b, f, int(e), int(want))
		}
	}
	for n := range 4 {
		wrong(api.ErrShort, make([]byte, n))
	}
	wrong(api.ErrShort, nil)
	wrong(api.ErrSum, []byte{1, 2, 3, 4})
	good := []byte{0x55, 2, 5, 7, 9, 0, 0, 2, 'x', 'y'}
	wrong(api.ErrSum, good)
	wrong(api.ErrSum, append(seal(good...), 0))
	wrong(api.ErrFrame, seal())
	for n := range good {
		wrong(api.ErrFrame, seal(good[:n]...))
	}
	wrong(api.ErrFrame, seal(append(good, 0)...))
	for i := range 0x100 {
		if i != 0x55 {
			b := slices.Clone(good)
			b[0] = byte(i)
			wrong(api.ErrFrame, seal(b...))
		}
	}
	for at := 1; at <= 7; at++ { // a number in a longer form
		b := slices.Concat(good[:at], []byte{0x80}, good[at:])
		wrong(api.ErrFrame, seal(b...))
	}
	for _, b := range [][]byte{
		{0x55, 0, 5, 7, 0, 0, 0, 0}, {0x55, 4, 5, 7, 0, 0, 0, 0}, {0x55, 1, 0, 7, 0, 0, 0, 0},
		{0x55, 1, 5, 7, 1, 0, 0, 0}, {0x55, 1, 5, 7, 0, 1, 0, 0}, {0x55, 1, 5, 7, 0, 0, 1, 0}, {0x55, 1, 5, 7, 0, 0, 0, 1, 9},
		{0x55, 2, 5, 7, 0, 0, 0, 0}, {0x55, 2, 5, 7, 1, 1, 0, 0}, {0x55, 2, 5, 7, 1, 0, 1, 0},
		{0x55, 3, 5, 7, 1, 0, 0, 0}, {0x55, 3, 5, 7, 0, 0, 0, 1, 9}, {0x55, 3, 5, 7, 0, 0, 0xc1, 0, 0, 0},
		{0x55, 1, 0xf9, 0, 0, 0, 0, 1, 7, 0, 0, 0, 0}, {0x55, 1, 5, 0xf9, 0, 0, 0, 0, 1, 0, 0, 0, 0},
		{0x55, 2, 5, 7, 0xf9, 0, 0, 0, 0, 1, 0, 0, 0}, {0x55, 3, 5, 7, 0, 0xf9, 0, 0, 0, 0, 1, 0, 0},
		slices.Concat([]byte{0x55, 2, 5, 7, 1, 0, 0, 0x82, 1}, make([]byte, 513)),
		slices.Concat([]byte{0x55, 2, 5, 7, 1}, bytes.Repeat([]byte{0xff}, 9)),
	} {
		wrong(api.ErrFrame, seal(b...))
	}
}

func TestP12_2New(t *testing.T) {
	for _, me := range []int{math.MinInt, -1, 0, nonce + 1, math.MaxInt} {
		if x, e := tunnel.New(me); x != nil || e != api.ErrArg {
			t.Errorf("New(%d): %v and %d", me, x, int(e))
		}
	}
	for _, me := range []int{1, 2, 1 << 20, nonce - 1, nonce} {
		x := made(t, me)
		ends(t, x, me, 0, 0, false)
		counts(t, x, 0, 0)
		said(t, x)
	}
}

// What New did not make has nothing and does nothing.
func TestP12_2NoTunnel(t *testing.T) {
	refused, _ := tunnel.New(0)
	for _, x := range []*tunnel.Tunnel{nil, {}, refused} {
		for range 2 {
			x.Hint(5)
			passes(x, 100)
			answers(t, api.ErrNil, x.Send(nil), x.Send(make([]byte, 600)))
			for _, b := range [][]byte{nil, {1, 2, 3, 4}, put(t, hello(7, 0)), put(t, hello(7, 5)), put(t, data(7, 0, 1, "x"))} {
				if l, e := x.Take(b); l != nil || e != api.ErrNil {
					t.Errorf("Take: %v and %d", l, int(e))
				}
			}
			ends(t, x, 0, 0, 0, false)
			counts(t, x, 0, 0)
			said(t, x)
		}
	}
}

func TestP12_2Hint(t *testing.T) {
	x := made(t, 5)
	for _, n := range []int{math.MinInt, -1, 0, nonce + 1, math.MaxInt} {
		x.Hint(n)
	}
	said(t, x)
	for _, n := range []int{1, 5, 7, nonce} {
		x.Hint(n)
	}
	said(t, x, hello(5, 1), hello(5, 5), hello(5, 7), hello(5, nonce))
	said(t, x)
	ends(t, x, 5, 0, 0, false)
	x = session(t)
	x.Hint(3)
	x.Hint(9)
	said(t, x, hello(5, 3), hello(5, 9))
	ends(t, x, 5, 7, 1, true)
}

func TestP12_2Example(t *testing.T) {
	a, b := made(t, 5), made(t, 7)
	a.Hint(7)
	said(t, a, hello(5, 7))
	tell(t, b, hello(5, 7))
	ends(t, b, 7, 5, 1, true)
	said(t, b, hello(7, 5))
	tell(t, a, hello(7, 5))
	ends(t, a, 5, 7, 1, true)
	said(t, a, hello(5, 7))
	tell(t, b, hello(5, 7))
	said(t, b)
	send(t, a, "x")
	said(t, a, data(5, 7, 1, "x"))
	tell(t, b, data(5, 7, 1, "x"), "x")
	said(t, b, ack(7, 5, 1, 0))
	tell(t, a, ack(7, 5, 1, 0))
	counts(t, a, 0, 64)
}

// What is refused is not sent; the first error is told.
func TestP12_3Errors(t *testing.T) {
	x := made(t, 5)
	answers(t, api.ErrDead, x.Send(nil), x.Send([]byte("x")), x.Send(make([]byte, 513)))
	counts(t, x, 0, 0)
	x = session(t)
	answers(t, api.ErrLong, x.Send(make([]byte, 513)), x.Send(make([]byte, 100000)))
	counts(t, x, 0, 64)
	said(t, x)
	send(t, x, string(make([]byte, 512)), "")
	said(t, x, data(5, 7, 1, string(make([]byte, 512))), data(5, 7, 2, ""))
	for n := 3; n <= 64; n++ {
		send(t, x, "x")
		counts(t, x, n, 64-n)
	}
	answers(t, api.ErrFull, x.Send(nil), x.Send([]byte("y")))
	answers(t, api.ErrLong, x.Send(make([]byte, 513)))
	counts(t, x, 64, 0)
	tell(t, x, ack(7, 5, 1, 0))
	counts(t, x, 63, 1)
	send(t, x, "y")
	answers(t, api.ErrFull, x.Send(nil))
	passes(x, 64)
	answers(t, api.ErrDead, x.Send(nil), x.Send(make([]byte, 513)))
	counts(t, x, 0, 0)
}

// Sixteen numbers from that of the first frame on the way may be on the way, however many of them still are.
func TestP12_3Slide(t *testing.T) {
	x := session(t)
	for n := 1; n <= 26; n++ {
		send(t, x, letter(n))
	}
	said(t, x, flights(1, 16)...)
	counts(t, x, 26, 38)
	tell(t, x, ack(7, 5, 0, 0x0002)) // not the first one
	said(t, x)
	counts(t, x, 25, 39)
	tell(t, x, ack(7, 5, 0, 0xfff2)) // all but 1, 3 and 4
	said(t, x)
	counts(t, x, 13, 51)
	tell(t, x, ack(7, 5, 1, 0)) // 3 is the first one now
	said(t, x, flights(17, 18)...)
	counts(t, x, 12, 52)
	tell(t, x, ack(7, 5, 2, 0x0003))
	said(t, x, flights(19, 26)...)
	counts(t, x, 10, 54)
	tell(t, x, ack(7, 5, 26, 0))
	said(t, x)
	counts(t, x, 0, 64)
	send(t, x, "z")
	said(t, x, data(5, 7, 27, "z"))
}

func TestP12_4Errors(t *testing.T) {
	x := session(t)
	send(t, x, "a")
	x.Out()
	passes(x, 2)
	for _, b := range [][]byte{nil, {1, 2, 3}, {1, 2, 3, 4}, seal(), seal(0x55, 1, 7, 5, 0, 0, 0), append(put(t, hello(7, 5)), 0)} {
		_, want := tunnel.Get(b)
		if l, e := x.Take(b); l != nil || e != want || e == api.OK {
			t.Errorf("Take of % x: %v and %d, not %d", b, l, int(e), int(want))
		}
	}
	said(t, x)
	ends(t, x, 5, 7, 1, true)
	counts(t, x, 1, 63)
	passes(x, 61) // none of it broke the silence
	ends(t, x, 5, 7, 1, true)
	x.Tick()
	ends(t, x, 6, 7, 2, false)
}

func TestP12_4Hello(t *testing.T) {
	fresh := func() *tunnel.Tunnel { return made(t, 5) }
	up := func() *tunnel.Tunnel { return session(t) }
	over := func() *tunnel.Tunnel { // it is 6 now, and knows 7
		x := session(t)
		passes(x, 64)
		x.Out()
		ends(t, x, 6, 7, 2, false)
		return x
	}
	for i, c := range []struct {
		begin          func() *tunnel.Tunnel
		from, you      int
		says           bool
		wantYou, epoch int
		up             bool
	}{
		{fresh, 7, 0, true, 0, 0, false},
		{fresh, 1, 4, true, 0, 0, false},
		{fresh, 7, 6, true, 0, 0, false},
		{fresh, 7, 5, true, 7, 1, true},
		{fresh, 1, 5, true, 1, 1, true},
		{fresh, nonce, 5, true, nonce, 1, true},
		{up, 6, 0, false, 7, 1, true},
		{up, 7, 0, true, 7, 1, true},
		{up, 8, 0, true, 7, 1, true},
		{up, 8, 6, true, 7, 1, true},
		{up, 6, 5, false, 7, 1, true},
		{up, 7, 5, false, 7, 1, true},
		{up, 8, 5, true, 8, 2, true},
		{over, 6, 5, false, 7, 2, false},
		{over, 7, 5, true, 7, 2, false},
		{over, 8, 5, true, 7, 2, false},
		{over, 6, 6, false, 7, 2, false},
		{over, 7, 6, true, 7, 3, true},
		{over, 8, 6, true, 8, 3, true},
	} {
		x := c.begin()
		me := x.Me()
		tell(t, x, hello(c.from, c.you))
		if x.You() != c.wantYou || x.Epoch() != c.epoch || x.Up() != c.up {
			t.Errorf("case %d: you %d, epoch %d, up %v", i, x.You(), x.Epoch(), x.Up())
		}
		if c.says {
			said(t, x, hello(me, c.from))
		} else {
			said(t, x)
		}
		ends(t, x, me, x.You(), x.Epoch(), x.Up())
	}
}

// A session that begins has nothing of the one before, neither ways nor numbers nor silence.
func TestP12_4Begins(t *testing.T) {
	x := session(t)
	for n := 1; n <= 20; n++ {
		send(t, x, letter(n))
	}
	tell(t, x, data(7, 5, 1, "m"), "m")
	tell(t, x, data(7, 5, 3, "o"))
	passes(x, 40)
	x.Out()
	tell(t, x, hello(9, 5))
	said(t, x, hello(5, 9))
	ends(t, x, 5, 9, 2, true)
	counts(t, x, 0, 64)
	passes(x, 7) // ticks go on: 47
	said(t, x)
	x.Tick()
	said(t, x, hello(5, 9))
	send(t, x, "n")
	said(t, x, data(5, 9, 1, "n"))
	tell(t, x, data(9, 5, 2, "q"))
	said(t, x, ack(5, 9, 0, 2))
	tell(t, x, data(9, 5, 1, "p"), "p", "q")
	said(t, x, ack(5, 9, 2, 0))
	passes(x, 63)
	ends(t, x, 5, 9, 2, true)
	x.Tick()
	ends(t, x, 6, 9, 3, false)
	x = session(t)
	passes(x, 30)
	tell(t, x, hello(9, 5))
	passes(x, 63)
	ends(t, x, 5, 9, 2, true)
	x.Tick()
	ends(t, x, 6, 9, 3, false)
}

// Frames of no session: who means somebody else is greeted, unless it is an older one; all else does nothing.
func TestP12_4Others(t *testing.T) {
	for i, c := range []struct {
		up        bool
		from, you int
		says      bool
	}{
		{false, 7, 0, true}, {false, 1, 4, true}, {false, 7, 5, false},
		{true, 6, 5, false}, {true, 8, 5, false}, {true, nonce, 5, false},
		{true, 6, 0, false}, {true, 6, 4, false}, {true, 7, 0, true}, {true, 7, 4, true}, {true, 8, 6, true},
	} {
		for _, f := range []api.Frame{data(c.from, c.you, 1, "x"), data(c.from, c.you, 2, "x"), ack(c.from, c.you, 0, 0), ack(c.from, c.you, 9, 0xffff)} {
			x, you, epoch, waiting := made(t, 5), 0, 0, 0
			if c.up {
				x, you, epoch, waiting = session(t), 7, 1, 1
				send(t, x, "a")
				x.Out()
			}
			tell(t, x, f)
			if c.says {
				said(t, x, hello(5, c.from))
			} else {
				said(t, x)
			}
			if x.Me() != 5 || x.You() != you || x.Epoch() != epoch || x.Up() != c.up || x.Waiting() != waiting {
				t.Errorf("case %d: me %d, you %d, epoch %d, up %v, %d wait", i, x.Me(), x.You(), x.Epoch(), x.Up(), x.Waiting())
			}
			if c.up {
				tell(t, x, data(7, 5, 1, "y"), "y")
				said(t, x, ack(5, 7, 1, 0))
			}
		}
	}
	// A session that is over, though who is known is known.
	x := session(t)
	passes(x, 64)
	x.Out()
	for _, f := range []api.Frame{data(7, 6, 1, "x"), ack(7, 6, 0, 0), data(8, 6, 1, "x"), ack(6, 5, 1, 0)} {
		tell(t, x, f)
		said(t, x)
	}
	tell(t, x, data(7, 5, 1, "x"))
	tell(t, x, ack(8, 5, 1, 0))
	said(t, x, hello(6, 7), hello(6, 8))
	ends(t, x, 6, 7, 2, false)
}

// What breaks the silence, and what does not.
func TestP12_4Silence(t *testing.T) {
	for i, c := range []struct {
		f      api.Frame
		breaks bool
	}{
		{hello(7, 5), true}, {data(7, 5, 1, "x"), true}, {data(7, 5, 99, "x"), true}, {ack(7, 5, 0, 0), true}, {ack(7, 5, nonce, 0), true},
		{hello(7, 4), false}, {data(7, 4, 1, "x"), false}, {ack(7, 0, 0, 0), false},
		{hello(6, 5), false}, {data(6, 5, 1, "x"), false}, {ack(6, 5, 0, 0), false}, {data(8, 5, 1, "x"), false}, {ack(8, 5, 0, 0), false},
	} {
		x := session(t)
		passes(x, 63)
		x.Take(put(t, c.f))
		x.Tick()
		if x.Up() != c.breaks {
			t.Errorf("case %d: up %v", i, x.Up())
			continue
		}
		if c.breaks {
			passes(x, 62)
			ends(t, x, 5, 7, 1, true)
			x.Tick()
			ends(t, x, 6, 7, 2, false)
		}
	}
}

// What was acknowledged is on the way no more, and is not said again.
func TestP12_4Ack(t *testing.T) {
	for i, c := range []struct {
		ack, bits int
		left      []int
	}{
		{0, 0, []int{1, 2, 3, 4, 5, 6, 7, 8, 9, 10, 11, 12, 13, 14, 15, 16}},
		{0, 0x8001, []int{2, 3, 4, 5, 6, 7, 8, 9, 10, 11, 12, 13, 14, 15}},
		{0, 0xffff, nil},
		{1, 0x0005, []int{3, 5, 6, 7, 8, 9, 10, 11, 12, 13, 14, 15, 16}},
		{3, 0x1555, []int{5, 7, 9, 11, 13, 15}},
		{12, 0x0004, []int{13, 14, 16}},
		{15, 0, []int{16}},
		{15, 0xfffe, []int{16}},
		{16, 0xffff, nil},
		{17, 0, nil},
		{nonce, 0xffff, nil},
	} {
		x := session(t)
		for n := 1; n <= 16; n++ {
			send(t, x, letter(n))
		}
		x.Out()
		tell(t, x, ack(7, 5, c.ack, c.bits))
		said(t, x)
		if x.Waiting() != len(c.left) {
			t.Errorf("case %d: %d wait, not %v", i, x.Waiting(), c.left)
		}
		var want []api.Frame
		for _, n := range c.left {
			want = append(want, data(5, 7, n, letter(n)))
		}
		passes(x, 4)
		said(t, x, want...)
	}
}

// Sixteen behind those that came are kept, and told in their turn.
func TestP12_4Data(t *testing.T) {
	x := session(t)
	tell(t, x, data(7, 5, 17, "no"))
	said(t, x, ack(5, 7, 0, 0))
	tell(t, x, data(7, 5, nonce, "no"))
	said(t, x, ack(5, 7, 0, 0))
	tell(t, x, data(7, 5, 16, "p"))
	said(t, x, ack(5, 7, 0, 0x8000))
	tell(t, x, data(7, 5, 2, "no"))
	said(t, x, ack(5, 7, 0, 0x8002))
	tell(t, x, data(7, 5, 2, "b")) // in the place of the one that came
	said(t, x, ack(5, 7, 0, 0x8002))
	tell(t, x, data(7, 5, 4, ""))
	said(t, x, ack(5, 7, 0, 0x800a))
	tell(t, x, data(7, 5, 1, "a"), "a", "b")
	said(t, x, ack(5, 7, 2, 0x2002))
	tell(t, x, data(7, 5, 1, "no"))
	tell(t, x, data(7, 5, 2, "no"))
	said(t, x, ack(5, 7, 2, 0x2002), ack(5, 7, 2, 0x2002))
	tell(t, x, data(7, 5, 19, "no"))
	said(t, x, ack(5, 7, 2, 0x2002))
	tell(t, x, data(7, 5, 18, "r"))
	said(t, x, ack(5, 7, 2, 0xa002))
	tell(t, x, data(7, 5, 3, "c"), "c", "")
	said(t, x, ack(5, 7, 4, 0x2800))
	for n := 15; n > 5; n-- {
		tell(t, x, data(7, 5, n, letter(n)))
	}
	x.Out()
	tell(t, x, data(7, 5, 5, "e"), "e", "f", "g", "h", "i", "j", "k", "l", "m", "n", "o", "p")
	said(t, x, ack(5, 7, 16, 0x0002))
	tell(t, x, data(7, 5, 17, "q"), "q", "r")
	said(t, x, ack(5, 7, 18, 0))
}

// Without a session who is known is greeted at each fourth tick, from the tunnel's own beginning on.
func TestP12_5Alone(t *testing.T) {
	x := made(t, 5)
	passes(x, 100)
	said(t, x)
	ends(t, x, 5, 0, 0, false)
	x = made(t, 5)
	passes(x, 3)
	tell(t, x, hello(7, 5))
	passes(x, 64) // 67
	x.Out()
	ends(t, x, 6, 7, 2, false)
	x.Tick()
	said(t, x, hello(6, 7))
	for range 40 {
		passes(x, 3)
		said(t, x)
		x.Tick()
		said(t, x, hello(6, 7))
	}
	ends(t, x, 6, 7, 2, false)
}

// Within a session each eighth tick greets, and frames are said again by their own ages.
func TestP12_5Again(t *testing.T) {
	x := session(t)
	send(t, x, "a")
	x.Tick() // 1
	send(t, x, "b")
	passes(x, 2) // 3
	said(t, x, data(5, 7, 1, "a"), data(5, 7, 2, "b"))
	x.Tick() // 4
	said(t, x, data(5, 7, 1, "a"))
	send(t, x, "c")
	x.Tick() // 5
	said(t, x, data(5, 7, 3, "c"), data(5, 7, 2, "b"))
	passes(x, 2) // 7
	said(t, x)
	x.Tick() // 8
	said(t, x, hello(5, 7), data(5, 7, 1, "a"), data(5, 7, 3, "c"))
	tell(t, x, ack(7, 5, 0, 4)) // 3
	x.Tick()                    // 9
	said(t, x, data(5, 7, 2, "b"))
	passes(x, 2) // 11
	said(t, x)
	x.Tick() // 12
	said(t, x, data(5, 7, 1, "a"))
	tell(t, x, ack(7, 5, 2, 0))
	passes(x, 3) // 15
	said(t, x)
	x.Tick() // 16
	said(t, x, hello(5, 7))
	ends(t, x, 5, 7, 1, true)
}

// The last tick of a session does nothing else, and what waited is lost.
func TestP12_5Ends(t *testing.T) {
	x := session(t)
	send(t, x, "a")
	passes(x, 63)
	x.Out()
	ends(t, x, 5, 7, 1, true)
	counts(t, x, 1, 63)
	x.Tick() // 64: a multiple of 8, and of 4
	said(t, x)
	ends(t, x, 6, 7, 2, false)
	counts(t, x, 0, 0)
	tell(t, x, hello(7, 6))
	said(t, x, hello(6, 7))
	ends(t, x, 6, 7, 3, true)
	counts(t, x, 0, 64)
	send(t, x, "b")
	said(t, x, data(6, 7, 1, "b"))
	// There is no greater number than 2^40.
	for _, me := range []int{nonce - 1, nonce} {
		x = made(t, me)
		tell(t, x, hello(7, me))
		passes(x, 64)
		ends(t, x, nonce, 7, 2, false)
	}
}

// What was said bears the number that the tunnel had then.
func TestP12_5Said(t *testing.T) {
	x := session(t)
	send(t, x, "a")
	passes(x, 64)
	x.Hint(9)
	l := x.Out()
	if !bytes.Equal(l[0], put(t, data(5, 7, 1, "a"))) || !bytes.Equal(l[len(l)-1], put(t, hello(6, 9))) {
		t.Errorf("% x and % x", l[0], l[len(l)-1])
	}
}

// pair is two numbers, the own one first.
type pair [2]int

// bad is two tunnels with a bad way in between, and what was sent and told in each session.
type bad struct {
	dice
	t    *testing.T
	ends [2]*tunnel.Tunnel
	way  [2][][]byte // to whom
	sent [2]map[pair][]string
	told [2]map[pair][]string
	next int
	most int // how many waited at most
}

func newBad(t *testing.T, seed int) *bad {
	w := &bad{dice: dice(seed), t: t}
	w.ends = [2]*tunnel.Tunnel{made(t, 1+w.below(9)), made(t, 1+w.below(9))}
	for i := range 2 {
		w.sent[i], w.told[i] = map[pair][]string{}, map[pair][]string{}
	}
	return w
}

func (w *bad) numbers(i int) pair {
	return pair{w.ends[i].Me(), w.ends[i].You()}
}

// collect puts what both said on the way.
func (w *bad) collect() {
	for i, x := range w.ends {
		w.way[1-i] = append(w.way[1-i], x.Out()...)
		w.most = max(w.most, x.Waiting())
	}
}

// take lets a datagram come, and asks whether what is told there is a beginning of what was sent.
func (w *bad) take(i int, b []byte) {
	w.t.Helper()
	l, e := w.ends[i].Take(b)
	answers(w.t, api.OK, e)
	p := w.numbers(i)
	for _, body := range l {
		w.told[i][p] = append(w.told[i][p], string(body))
	}
	told, sent := w.told[i][p], w.sent[1-i][pair{p[1], p[0]}]
	if len(told) > len(sent) || !slices.Equal(told, sent[:len(told)]) {
		w.t.Fatalf("told %q, of %q", told, sent)
	}
}

// send sends the next message.
func (w *bad) send(i int) {
	w.t.Helper()
	x := w.ends[i]
	w.next++
	body := string(binary.BigEndian.AppendUint32(nil, uint32(w.next)))
	up, room, waiting := x.Up(), x.Room(), x.Waiting()
	if e := x.Send([]byte(body)); e == api.OK {
		w.sent[i][w.numbers(i)] = append(w.sent[i][w.numbers(i)], body)
		if !up || room == 0 || x.Waiting() != waiting+1 {
			w.t.Fatalf("sent, room for %d, %d and %d waited", room, waiting, x.Waiting())
		}
	} else if up && room > 0 {
		w.t.Fatalf("not sent, room for %d: %d", room, int(e))
	}
}

// step does one thing of those that there are.
func (w *bad) step() {
	w.t.Helper()
	i := w.below(2)
	what := w.below(1000)
	switch l := w.way[i]; {
	case what < 300:
		w.send(i)
	case what < 450:
		w.ends[i].Tick()
	case what < 460:
		w.ends[i].Hint(w.ends[1-i].Me())
	case what < 465:
		passes(w.ends[i], 10+w.below(60))
	case what < 468:
		n := w.ends[i].Me() + 100
		w.ends[i] = made(w.t, n)
	case len(l) == 0:
	case what < 560: // lost
		at := w.below(len(l))
		w.way[i] = slices.Delete(l, at, at+1)
	case what < 660: // twice
		w.take(i, l[w.below(len(l))])
	default: // late or early
		at := min(w.below(len(l)), w.below(len(l)))
		w.take(i, l[at])
		w.way[i] = slices.Delete(l, at, at+1)
	}
	w.collect()
}

func TestP12_6Once(t *testing.T) {
	told, sessions := 0, 0
	for seed := range 200 {
		w := newBad(t, seed)
		for range 600 {
			w.step()
		}
		for i := range 2 {
			for _, l := range w.told[i] {
				told += len(l)
				sessions++
			}
		}
	}
	if told < 5000 || sessions < 300 {
		t.Errorf("only %d messages were told in %d sessions", told, sessions)
	}
}

func TestP12_7Bounds(t *testing.T) {
	most, ways := 0, 0
	for seed := range 200 {
		w := newBad(t, seed)
		for range 600 {
			w.step()
			for _, x := range w.ends {
				if x.Up() && x.Room()+x.Waiting() != 64 || !x.Up() && x.Room()+x.Waiting() != 0 || x.Room() < 0 {
					t.Fatalf("%d wait, room for %d", x.Waiting(), x.Room())
				}
			}
		}
		most = max(most, w.most)
		for _, x := range w.ends {
			ways = max(ways, onTheWay(t, x))
		}
	}
	if most != 64 || ways != 16 {
		t.Errorf("at most %d waited, and %d were on the way", most, ways)
	}
}

// onTheWay is how many frames are on the way: those that are said within four ticks.
func onTheWay(t *testing.T, x *tunnel.Tunnel) int {
	t.Helper()
	if !x.Up() {
		return 0
	}
	tell(t, x, hello(x.You(), x.Me())) // or the session might end meanwhile
	x.Out()
	passes(x, 4)
	seen := map[int]bool{}
	for _, b := range x.Out() {
		if f, _ := tunnel.Get(b); f.Kind == api.FData {
			seen[f.Seq] = true
		}
	}
	return len(seen)
}

// states are tunnels in some states, the same ones each time.
func states(t *testing.T) []*tunnel.Tunnel {
	t.Helper()
	up := session(t)
	send(t, up, "a", "b")
	tell(t, up, data(7, 5, 2, "n"))
	passes(up, 30)
	over := session(t)
	passes(over, 64)
	l := []*tunnel.Tunnel{made(t, 5), session(t), up, over}
	for _, x := range l {
		x.Out()
	}
	return l
}

// A tunnel to which strangers speak goes on as its twin, to which none does.
func TestP12_8Strangers(t *testing.T) {
	for s := range states(t) {
		for _, from := range []int{1, 6, 7, 8, nonce} {
			for _, you := range []int{0, 1, 4, 7, 8, nonce} {
				for _, f := range []api.Frame{hello(from, you), data(from, you, 1, "s"), data(from, you, 3, "s"), ack(from, you, 1, 0), ack(from, you, 0, 3)} {
					x, twin := states(t)[s], states(t)[s]
					tell(t, x, f)
					x.Out()
					for range 100 {
						ends(t, x, twin.Me(), twin.You(), twin.Epoch(), twin.Up())
						counts(t, x, twin.Waiting(), twin.Room())
						x.Tick()
						twin.Tick()
						if !slices.EqualFunc(x.Out(), twin.Out(), bytes.Equal) {
							t.Fatalf("another thing is said behind %v", f)
						}
					}
				}
			}
		}
	}
	x := states(t)[2]
	tell(t, x, data(7, 4, 1, "s"))
	tell(t, x, data(7, 5, 1, "m"), "m", "n")
}

// However bad it was, then all comes through.
func TestP12_9InTheEnd(t *testing.T) {
	for seed := range 200 {
		w := newBad(t, seed)
		for range 400 {
			w.step()
		}
		// Boxes that do not know one another are told of one another by a probe.
		w.ends[0].Hint(w.ends[1].Me())
		for range 300 {
			for i, x := range w.ends {
				x.Tick()
				w.collect()
				for len(w.way[i]) > 0 {
					b := w.way[i][0]
					w.way[i] = w.way[i][1:]
					w.take(i, b)
					w.collect()
				}
			}
		}
		a, b := w.numbers(0), w.numbers(1)
		if !w.ends[0].Up() || !w.ends[1].Up() || a != (pair{b[1], b[0]}) {
			t.Fatalf("%d: no session: %v and %v", seed, a, b)
		}
		for i, p := range []pair{a, b} {
			if w.ends[i].Waiting() != 0 || !slices.Equal(w.sent[i][p], w.told[1-i][pair{p[1], p[0]}]) {
				t.Fatalf("%d: not all came through", seed)
			}
		}
	}
}

// A byte of a frame that is another one makes it none, to Get and to a tunnel.
func TestP12_10Turned(t *testing.T) {
	for _, f := range []api.Frame{hello(7, 5), data(7, 5, 1, ""), data(7, 5, 1, "some text"), data(nonce, 5, 300, "x"), ack(7, 5, 1, 0), ack(7, 5, 300, 0xffff)} {
		x := session(t)
		send(t, x, "a")
		x.Out()
		good := put(t, f)
		for at := range good {
			for turn := 1; turn < 256; turn++ {
				b := slices.Clone(good)
				b[at] ^= byte(turn)
				if g, e := tunnel.Get(b); e == api.OK || !same(g, api.Frame{}) {
					t.Fatalf("byte %d of %v: %v and %d", at, f, g, int(e))
				}
				if l, e := x.Take(b); e == api.OK || l != nil {
					t.Fatalf("byte %d of %v: %q and %d", at, f, l, int(e))
				}
			}
		}
		said(t, x)
		ends(t, x, 5, 7, 1, true)
		counts(t, x, 1, 63)
	}
}

func TestObjectsApart(t *testing.T) {
	a, b := session(t), session(t)
	send(t, a, "a")
	tell(t, a, data(7, 5, 2, "n"))
	passes(a, 64)
	ends(t, b, 5, 7, 1, true)
	counts(t, b, 0, 64)
	said(t, b)
	tell(t, b, data(7, 5, 1, "m"), "m")
}

func TestMemoryIsNew(t *testing.T) {
	whole := []byte("messagebehind")
	f := api.Frame{Kind: api.FData, From: 5, You: 7, Seq: 1, Body: whole[:7]}
	b := put(t, f)
	g, _ := tunnel.Get(b)
	clear(b[:cap(b)])
	if string(whole) != "messagebehind" || string(g.Body) != "message" {
		t.Fatalf("%q and %q", whole, g.Body)
	}
	clear(g.Body[:cap(g.Body)])
	x := session(t)
	answers(t, api.OK, x.Send(whole[:7]))
	if string(whole) != "messagebehind" {
		t.Fatal("what stands behind was changed")
	}
	clear(whole)
	for i := range 3 {
		l := x.Out()
		last := l[len(l)-1]
		if !bytes.Equal(last, put(t, data(5, 7, 1, "message"))) {
			t.Fatalf("time %d: % x: it is shared", i, last)
		}
		for _, b := range l {
			clear(b[:cap(b)])
		}
		clear(l[:cap(l)])
		passes(x, 4)
	}
	x.Out()
	second, first := put(t, data(7, 5, 2, "second")), put(t, data(7, 5, 1, "first"))
	x.Take(second)
	clear(second)
	l, _ := x.Take(first)
	clear(first)
	if len(l) != 2 || string(l[0]) != "first" || string(l[1]) != "second" {
		t.Fatalf("%q: it is shared", l)
	}
	clear(l[0][:cap(l[0])])
	if string(l[1]) != "second" {
		t.Fatalf("%q: it is shared", l)
	}
}
