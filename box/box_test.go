package box_test

import (
	"bytes"
	"math"
	"slices"
	"testing"

	"flume/api"
	"flume/box"
	"flume/chunk"
	"flume/digest"
	"flume/packet"
	"flume/rabin"
	"flume/record"
	"flume/tcp"
	"flume/tunnel"
)

const (
	syn = api.SYN
	ack = api.ACK
	fin = api.FIN
	rst = api.RST
)

// yours is the number of the other box.
const yours = 7

// dice throws numbers that look like chance and are the same each time.
type dice uint64

func (d *dice) below(n int) int {
	*d = *d*6364136223846793005 + 1442695040888963407
	return int(*d >> 33 % dice(n))
}

// text is bytes that look like chance; those of unlike numbers differ.
func text(number, n int) []byte {
	d := dice(number)
	b := make([]byte, n)
	for i := range b {
		b[i] = byte(d.below(256))
	}
	return b
}

// cuts is the chunks of some bytes.
func cuts(b []byte) [][]byte {
	t, _ := rabin.New(0x80000009)
	return chunk.All(t, b)
}

// whole is bytes that are so many chunks, of which the last one ends by itself.
func whole(number, chunks int) []byte {
	l := cuts(text(number, 300*chunks))
	return bytes.Join(l[:chunks], nil)
}

func open(id, port, dport int) api.Note {
	return api.Note{Kind: api.NOpen, Flow: id, Port: port, Dport: dport}
}

func done(id, n int) api.Note { return api.Note{Kind: api.NDone, Flow: id, Index: n} }
func miss(id, i int) api.Note { return api.Note{Kind: api.NMiss, Flow: id, Index: i} }
func end(id int) api.Note     { return api.Note{Kind: api.NFin, Flow: id} }
func broken(id int) api.Note  { return api.Note{Kind: api.NRst, Flow: id} }

// data is the note of a chunk's record; known: by reference.
func data(id, i int, chunk []byte, known bool) api.Note {
	r, _ := record.Make(chunk, known)
	return api.Note{Kind: api.NData, Flow: id, Index: i, Rec: r}
}

// all is the notes of some bytes that are not known, as records from a number on.
func all(id, from int, b []byte) []api.Note {
	var l []api.Note
	for i, c := range cuts(b) {
		l = append(l, data(id, from+i, c, false))
	}
	return l
}

// bytesOf is what Put makes of something that may be.
func bytesOf[T any](t *testing.T, put func(T) ([]byte, api.Errno), x T) []byte {
	t.Helper()
	b, e := put(x)
	if e != api.OK {
		t.Fatalf("%v may not be: %d", x, int(e))
	}
	return b
}

// asked asks whether a list is what it should be, and empties it.
func asked[T any](t *testing.T, what string, put func(T) ([]byte, api.Errno), l *[]T, want []T) {
	t.Helper()
	got := *l
	*l = nil
	same := func(a, b T) bool { return bytes.Equal(bytesOf(t, put, a), bytesOf(t, put, b)) }
	if !slices.EqualFunc(got, want, same) {
		t.Fatalf("%s: %v, not %v", what, got, want)
	}
}

// host is one's end of a connection.
type host struct {
	*tcp.Conn
	port int // Left's own; or that of BoxR, which speaks to Right
}

// bench is a box, and what is around it.
type bench struct {
	*testing.T
	*box.Box
	side  int
	far   *tunnel.Tunnel // the other box's
	deaf  bool           // nothing comes to the other box
	lossy bool           // no message comes to it, but all else does
	hosts []*host
	lan   []api.Packet // went to the local side, to none of the hosts
	wan   []api.Packet // were handed on to the wide side
	notes []api.Note   // that it told
}

// begins is a box that met nobody.
func begins(t *testing.T, side, boot int, iss uint32) *bench {
	t.Helper()
	x, e := box.New(side, boot, iss)
	if e != api.OK {
		t.Fatalf("New(%d, %d, %d): %d", side, boot, iss, int(e))
	}
	b := &bench{T: t, Box: x, side: side}
	b.far, _ = tunnel.New(yours)
	t.Cleanup(func() {
		if !t.Failed() {
			b.nothing()
		}
	})
	return b
}

// meets is one that has a session.
func meets(t *testing.T, side, boot int, iss uint32) *bench {
	t.Helper()
	b := begins(t, side, boot, iss)
	b.meets()
	return b
}

func (b *bench) meets() {
	b.Helper()
	me, _, _, _ := b.Ends()
	b.far.Hint(me)
	b.settle()
	if _, you, _, up := b.Ends(); !up || you != b.far.Me() || !b.far.Up() {
		b.Fatal("no session")
	}
}

// both lets a test go through with a box of each side that has a session.
func both(t *testing.T, test func(b *bench)) {
	t.Helper()
	for _, side := range []int{api.BoxL, api.BoxR} {
		test(meets(t, side, 0, 0))
	}
}

// hostOf is the host to which a packet of the box goes.
func (b *bench) hostOf(p api.Packet) *host {
	port := p.Dport
	if b.side == api.BoxR {
		port = p.Sport
	}
	for _, h := range b.hosts {
		if h.port == port && (b.side == api.BoxL || p.Src == api.BoxR) {
			return h
		}
	}
	return nil
}

// hear takes what went out: whether there was something.
func (b *bench) hear() bool {
	b.Helper()
	lan, wan := b.Out()
	for _, x := range lan {
		p, e := packet.Get(x)
		if e != api.OK {
			b.Fatalf("% x goes to the local side", x)
		}
		if h := b.hostOf(p); h != nil {
			h.Take(p)
		} else {
			b.lan = append(b.lan, p)
		}
	}
	for _, x := range wan {
		if p, e := packet.Get(x); e == api.OK {
			b.wan = append(b.wan, p)
		} else if !b.deaf && !(b.lossy && isMessage(x)) {
			b.hearDatagram(x)
		}
	}
	return len(lan)+len(wan) > 0
}

// isMessage tells whether a datagram has a message.
func isMessage(x []byte) bool {
	f, _ := tunnel.Get(x)
	return f.Kind == api.FData
}

func (b *bench) hearDatagram(x []byte) {
	b.Helper()
	told, e := b.far.Take(x)
	if e != api.OK {
		b.Fatalf("% x goes to the wide side: %d", x, int(e))
	}
	for _, m := range told {
		n, e := record.Get(m)
		if e != api.OK {
			b.Fatalf("% x is told", m)
		}
		b.notes = append(b.notes, n)
	}
}

// settle carries all that goes out, till nothing does any more.
func (b *bench) settle() {
	b.Helper()
	for range 10000 {
		moved := b.hear()
		for _, h := range b.hosts {
			for _, p := range h.Out() {
				b.Lan(bytesOf(b.T, packet.Put, p))
				moved = true
			}
		}
		for _, x := range b.far.Out() {
			b.Wan(x)
			moved = true
		}
		if !moved {
			return
		}
	}
	b.Fatal("it goes on for ever")
}

// passes lets ticks pass.
func (b *bench) passes(ticks int) {
	b.Helper()
	for range ticks {
		b.Tick()
		b.far.Tick()
		for _, h := range b.hosts {
			h.Tick()
		}
		b.settle()
	}
}

// told asks for the notes that it told.
func (b *bench) told(want ...api.Note) {
	b.Helper()
	b.settle()
	asked(b.T, "notes", record.Put, &b.notes, want)
}

// gave asks for what it gave to the local side.
func (b *bench) gave(want ...api.Packet) {
	b.Helper()
	b.settle()
	asked(b.T, "to the local side", packet.Put, &b.lan, want)
}

// handed asks for what it handed on to the wide side.
func (b *bench) handed(want ...api.Packet) {
	b.Helper()
	b.settle()
	asked(b.T, "to the wide side", packet.Put, &b.wan, want)
}

// nothing asks for nothing.
func (b *bench) nothing() {
	b.Helper()
	b.told()
	b.gave()
	b.handed()
}

// forget forgets what came of what was done.
func (b *bench) forget() {
	b.Helper()
	b.settle()
	b.notes, b.lan, b.wan = nil, nil, nil
}

// says lets the other box tell notes.
func (b *bench) says(notes ...api.Note) {
	b.Helper()
	for _, n := range notes {
		b.sends(bytesOf(b.T, record.Put, n))
	}
}

// sends lets the other box send a message.
func (b *bench) sends(message []byte) {
	b.Helper()
	if e := b.far.Send(message); e != api.OK {
		b.Fatalf("the other box can't send: %d", int(e))
	}
	b.deliver(b.far.Out())
}

func (b *bench) deliver(datagrams [][]byte) {
	for _, x := range datagrams {
		b.Wan(x)
	}
}

// saysAtOnce lets notes come in an order in which all of them are told at once.
func (b *bench) saysAtOnce(notes ...api.Note) {
	b.Helper()
	for _, n := range notes {
		b.far.Send(bytesOf(b.T, record.Put, n))
	}
	l := b.far.Out()
	slices.Reverse(l)
	b.deliver(l)
}

// opens opens a flow, with a host that speaks through it.
func (b *bench) opens(id, port int) *host {
	b.Helper()
	if b.side == api.BoxL {
		h := &host{tcp.Dial(api.Left, port, api.Right, api.Served, 0, 7), port}
		b.hosts = append(b.hosts, h)
		b.told(open(id, port, api.Served))
		return h
	}
	b.says(open(id, port, api.Served))
	b.hear()
	if len(b.lan) != 1 {
		b.Fatalf("%v is no question", b.lan)
	}
	h := &host{tcp.Accept(b.lan[0], 500), b.lan[0].Sport}
	b.lan = nil
	b.hosts = append(b.hosts, h)
	b.settle()
	return h
}

// writes lets a host write bytes.
func (b *bench) writes(h *host, x []byte) {
	b.Helper()
	for range 1000 {
		x = x[h.Write(x):]
		b.settle()
		if len(x) == 0 {
			return
		}
	}
	b.Fatalf("%d bytes are not taken", len(x))
}

// reads asks for what a host reads.
func (b *bench) reads(h *host, want []byte) {
	b.Helper()
	b.settle()
	if got := h.Read(math.MaxInt); !bytes.Equal(got, want) {
		b.Fatalf("%d bytes were read: %q; not %d: %q", len(got), got, len(want), want)
	}
	b.settle()
}

// flows asks for the flows.
func (b *bench) flows(want ...api.Flow) {
	b.Helper()
	if got := b.Flows(); !slices.Equal(got, want) {
		b.Fatalf("%v, not %v", got, want)
	}
}

// counts asks for the counts.
func (b *bench) counts(want api.Count) {
	b.Helper()
	if got := b.Count(); got != want {
		b.Fatalf("%+v, not %+v", got, want)
	}
}

// state asks for the state of a host's endpoint.
func (b *bench) state(h *host, want int) {
	b.Helper()
	b.settle()
	if got := h.End().State; got != want {
		b.Fatalf("the host's state is %d, not %d", got, want)
	}
}

// question is one of the host Left.
func question(port int) api.Packet {
	return api.Packet{Src: api.Left, Sport: port, Dst: api.Right, Dport: api.Served, Seq: 7, Flags: syn, Window: 1024}
}

// open8 opens flows 1 to 8, of the ports from 1001 on.
func (b *bench) open8() []*host {
	b.Helper()
	var l []*host
	for i := range api.MaxFlows {
		l = append(l, b.opens(i+1, 1001+i))
	}
	return l
}

func TestP14_1New(t *testing.T) {
	for _, side := range []int{api.BoxL, api.BoxR} {
		for boot, me := range map[int]int{0: 1, 1: 1048577, 39: 40894465, 40: 41943041} {
			b := begins(t, side, boot, math.MaxUint32)
			b.ends(me, 0, 0, false)
			b.flows()
			b.counts(api.Count{})
			if l := b.Chunks(); len(l) != 0 {
				t.Errorf("%v are there", l)
			}
			if lan, wan := b.Out(); len(lan)+len(wan) != 0 {
				t.Errorf("%v and %v go out", lan, wan)
			}
			b.passes(100)
			b.nothing()
		}
	}
}

// ends asks for the tunnel's ends.
func (b *bench) ends(me, you, epoch int, up bool) {
	b.Helper()
	if m, y, e, u := b.Ends(); m != me || y != you || e != epoch || u != up {
		b.Fatalf("Ends: %d, %d, %d, %t; not %d, %d, %d, %t", m, y, e, u, me, you, epoch, up)
	}
}

func TestP14_1NewRefused(t *testing.T) {
	for _, x := range []struct{ side, boot int }{
		{0, 0}, {1, 0}, {2, 0}, {5, 0}, {7, 0}, {-1, 0}, {-3, 0}, {3 + 1<<32, 0}, {math.MinInt, 0}, {math.MaxInt, 0},
		{3, -1}, {4, -1}, {3, 41}, {4, 41}, {3, math.MinInt}, {4, math.MaxInt}, {3, 1 << 32}, {4, 1<<44 + 1}, {0, 41},
	} {
		if b, e := box.New(x.side, x.boot, 5); b != nil || e != api.ErrBox {
			t.Errorf("New(%d, %d, 5): %v, %d", x.side, x.boot, b, int(e))
		}
	}
}

func TestP14_1NoBox(t *testing.T) {
	for _, x := range []*box.Box{nil, {}} {
		b := &bench{T: t, Box: x}
		p := bytesOf(t, packet.Put, question(1000))
		hello := bytesOf(t, tunnel.Put, api.Frame{Kind: api.FHello, From: 7, You: 1})
		for range 2 {
			b.Lan(p)
			b.Wan(p)
			b.Wan(hello)
			b.Lan(nil)
			b.Wan(nil)
			b.Tick()
			b.ends(0, 0, 0, false)
			b.flows()
			b.counts(api.Count{})
			lan, wan := b.Out()
			if l := b.Chunks(); len(l)+len(lan)+len(wan) != 0 {
				t.Errorf("%v, %v, %v", l, lan, wan)
			}
			for _, n := range []int{-1, 0, 1} {
				if e := b.Evict(n); e != api.ErrNil {
					t.Errorf("Evict(%d): %d", n, int(e))
				}
			}
		}
	}
}

func TestP14_1Ends(t *testing.T) {
	both(t, func(b *bench) {
		b.ends(1, 7, 1, true)
		b.counts(api.Count{Epochs: 1})
		b.deaf = true
		for range 63 {
			b.Tick()
		}
		b.ends(1, 7, 1, true)
		b.Tick()
		b.ends(2, 7, 2, false)
		b.counts(api.Count{Epochs: 2})
	})
}

func TestP14_1Chunks(t *testing.T) {
	both(t, func(b *bench) {
		h := b.opens(1, 1000)
		x, y, z := whole(1, 1), whole(2, 1), whole(3, 1)
		b.writes(h, x)
		b.says(data(1, 1, y, false))
		b.writes(h, z)
		b.chunks(x, y, z)
		b.says(data(1, 2, x, true))
		b.chunks(y, z, x)
		b.writes(h, y)
		b.chunks(z, x, y)
		b.forget()
		b.reads(h, slices.Concat(y, x))
	})
}

// chunks asks for the chunks that are known, in their order.
func (b *bench) chunks(want ...[]byte) {
	b.Helper()
	var sums []api.Sum
	for _, c := range want {
		sums = append(sums, digest.Of(c))
	}
	if got := b.Chunks(); !slices.Equal(got, sums) {
		b.Fatalf("%x, not %x", got, sums)
	}
}

func TestP14_1Evict(t *testing.T) {
	both(t, func(b *bench) {
		b.evict(api.ErrChunk, math.MinInt, -1, 0, 1, math.MaxInt)
		h := b.opens(1, 1000)
		x, y, z := whole(1, 1), whole(2, 1), whole(3, 1)
		b.says(data(1, 1, x, false), data(1, 2, y, false), data(1, 3, z, false))
		b.evict(api.ErrChunk, math.MinInt, -1, 3, 4, math.MaxInt, 1<<32)
		b.chunks(x, y, z)
		b.evict(api.OK, 1)
		b.chunks(x, z)
		b.evict(api.OK, 1)
		b.chunks(x)
		b.evict(api.ErrChunk, 1)
		b.evict(api.OK, 0)
		b.chunks()
		b.evict(api.ErrChunk, 0)
		b.told(done(1, 1), done(1, 2), done(1, 3))
		b.reads(h, slices.Concat(x, y, z))
		b.writes(h, z)
		b.told(data(1, 1, z, false)) // it was forgotten
		b.writes(h, z)
		b.told(data(1, 2, z, true))
		b.evict(api.OK, 0) // though it is held
		b.chunks()
		b.says(miss(1, 2), done(1, 2))
		b.told(data(1, 2, z, false))
	})
}

// evict lets it forget the chunks at some places.
func (b *bench) evict(want api.Errno, places ...int) {
	b.Helper()
	for _, n := range places {
		if e := b.Evict(n); e != want {
			b.Fatalf("Evict(%d): %d, not %d", n, int(e), int(want))
		}
	}
}

func TestP14_1Count(t *testing.T) {
	both(t, func(b *bench) {
		h := b.opens(1, 1000)
		x, y := whole(1, 1), whole(2, 1)
		b.writes(h, slices.Concat(x, x, y, x))
		b.told(data(1, 1, x, false), data(1, 2, x, true), data(1, 3, y, false), data(1, 4, x, true))
		b.counts(api.Count{Refs: 2, Literals: 2, Epochs: 1})
		b.says(miss(1, 4))
		b.told(data(1, 4, x, false))
		b.counts(api.Count{Refs: 2, Literals: 3, Epochs: 1})
		b.says(data(1, 1, whole(9, 1), true))
		b.told(miss(1, 1))
		b.counts(api.Count{Refs: 2, Literals: 3, Misses: 1, Epochs: 1})
		b.says(broken(1), broken(1))
		b.counts(api.Count{Refs: 2, Literals: 3, Misses: 1, Broken: 1, Epochs: 1})
		b.state(h, api.Reset)
	})
}

func TestP14_1Flows(t *testing.T) {
	b := meets(t, api.BoxL, 0, 0)
	b.Lan(bytesOf(t, packet.Put, question(1000)))
	b.flows(api.Flow{ID: 1, Port: 1000, State: api.SynRcvd})
	b.forget()
	h := b.opens(2, 9)
	b.flows(api.Flow{ID: 1, Port: 1000, State: api.SynRcvd}, api.Flow{ID: 2, Port: 9, State: api.Established})
	b.writes(h, whole(1, 3))
	b.says(data(2, 1, whole(2, 1), true))
	b.flows(api.Flow{ID: 1, Port: 1000, State: api.SynRcvd}, api.Flow{ID: 2, Port: 9, State: api.Established, Sent: 3, Held: 1})
	b.says(broken(1))
	b.flows(api.Flow{ID: 1, Port: 1000, State: api.Reset, Broken: true}, api.Flow{ID: 2, Port: 9, State: api.Established, Sent: 3, Held: 1})
	b.forget()

	b = meets(t, api.BoxR, 0, 0)
	b.says(open(5, 70, 80), open(3, 60, 90))
	b.flows(api.Flow{ID: 5, Port: 70, State: api.SynSent}, api.Flow{ID: 3, Port: 60, State: api.SynSent})
	b.forget()
}

func TestP14_1Out(t *testing.T) {
	b := meets(t, api.BoxL, 0, 0)
	late := question(1000)
	late.Flags = ack
	b.Lan(bytesOf(t, packet.Put, question(5)))
	for range 8 {
		b.Tick()
	}
	b.Lan(bytesOf(t, packet.Put, late))
	lan, wan := b.Out()
	if len(lan) != 3 || len(wan) != 5 {
		t.Fatalf("%d and %d go out", len(lan), len(wan))
	}
	// What the tunnel said stands behind the packet that was handed on, though it was said before.
	if !bytes.Equal(wan[0], bytesOf(t, packet.Put, late)) {
		t.Fatalf("% x comes first", wan[0])
	}
	for i, kind := range []int{api.FData, api.FData, api.FHello, api.FData} {
		if f, e := tunnel.Get(wan[i+1]); e != api.OK || f.Kind != kind {
			t.Errorf("place %d: %v, %d", i+1, f, int(e))
		}
	}
	if lan, wan := b.Out(); len(lan)+len(wan) != 0 {
		t.Fatalf("%v and %v go out", lan, wan)
	}
}

// crossing is each way from one of the four to another one.
func crossing(each func(src, dst int)) {
	for src := range 4 {
		for dst := range 4 {
			if src != dst {
				each(src+1, dst+1)
			}
		}
	}
}

func TestP14_2Ways(t *testing.T) {
	for _, flags := range []int{syn, syn | ack, ack, fin | ack, rst, 0, 15, syn | fin, syn | rst} {
		crossing(func(src, dst int) {
			p := api.Packet{Src: src, Dst: dst, Sport: 1000, Dport: 80, Seq: 5, Ack: 6, Flags: flags, Window: 9, Data: []byte("abc")}
			probed := p
			probed.Probe = 1
			refusal, refused := packet.Refuse(p)
			for _, side := range []int{api.BoxL, api.BoxR} {
				b := begins(t, side, 0, 0)
				b.Lan(bytesOf(t, packet.Put, p))
				passed := 1
				switch {
				case side == api.BoxL && src == api.Left && dst == api.Right && flags == syn:
					b.handed(probed)
				case side == api.BoxL && src == api.Left && dst == api.Right, side == api.BoxR && src == api.Right && dst == api.Left:
					b.handed(p)
				case side == api.BoxR && src == api.Right && dst == api.BoxR && refused:
					b.gave(refusal)
					passed = 0
				default:
					passed = 0
				}
				b.nothing()
				b.counts(api.Count{Passed: passed})
				b.flows()
			}
		})
	}
}

func TestP14_2NoPacket(t *testing.T) {
	both(t, func(b *bench) {
		x := bytesOf(t, packet.Put, question(1000))
		b.Lan(nil)
		b.Lan([]byte{})
		b.Lan(make([]byte, 22))
		b.Lan(x[:len(x)-1])
		b.Lan(append(bytes.Clone(x), 1))
		for i := range x {
			y := bytes.Clone(x)
			y[i] ^= 1
			b.Lan(y)
		}
		// What a box takes from the other one is nothing here.
		b.Lan(bytesOf(t, tunnel.Put, api.Frame{Kind: api.FHello, From: 9, You: 1}))
		b.nothing()
		b.counts(api.Count{Epochs: 1})
		b.flows()
	})
}

func TestP14_2Probe(t *testing.T) {
	for boot, me := range map[int]int{0: 1, 3: 3<<20 + 1} {
		b := begins(t, api.BoxL, boot, 0)
		p := question(1000)
		want := p
		want.Probe = me
		b.Lan(bytesOf(t, packet.Put, p))
		b.handed(want)
		p.Probe, p.Origin, p.Data = 99, 5, []byte("abc") // another one's
		want = p
		want.Probe = me
		b.Lan(bytesOf(t, packet.Put, p))
		b.handed(want)
		p.Flags = syn | ack
		b.Lan(bytesOf(t, packet.Put, p))
		b.handed(p)
		b.counts(api.Count{Passed: 3})
		b.flows()
		b.meets()
		for range 64 {
			b.Tick()
		}
		// The session is over: it asks for one again, with its new number.
		b.forget()
		b.Lan(bytesOf(t, packet.Put, question(1000)))
		want = question(1000)
		want.Probe = me + 1
		b.handed(want)
	}
}

func TestP14_2Opens(t *testing.T) {
	for boot := range map[int]bool{0: true, 1: true, 40: true} {
		for _, iss := range []uint32{0, 7, math.MaxUint32, 1 << 31} {
			b := meets(t, api.BoxL, boot, iss)
			for i, port := range []int{1000, 1, 65535} {
				p := question(port)
				p.Dport, p.Probe = 80+i, 5*i
				b.Lan(bytesOf(t, packet.Put, p))
				first := iss + uint32(boot)<<24 + uint32(i)<<16
				b.gave(api.Packet{Src: api.Right, Sport: 80 + i, Dst: api.Left, Dport: port, Seq: first, Ack: 8, Flags: syn | ack, Window: 1024})
				b.told(open(i+1, port, 80+i))
			}
			b.nothing()
			b.counts(api.Count{Epochs: 1})
		}
	}
}

// A question is a packet whose flags are SYN alone; whatever else there is no flow of is handed on.
func TestP14_2OpensNot(t *testing.T) {
	b := meets(t, api.BoxL, 0, 0)
	for flags := range 16 {
		if flags != syn {
			p := question(1000)
			p.Flags, p.Probe = flags, flags
			b.Lan(bytesOf(t, packet.Put, p))
			b.handed(p)
		}
	}
	b.nothing()
	b.flows()
	b.counts(api.Count{Passed: 15, Epochs: 1})
}

func TestP14_2ToFlow(t *testing.T) {
	b := meets(t, api.BoxL, 0, 0)
	h, other := b.opens(1, 1000), b.opens(2, 1001)
	b.writes(h, whole(1, 1))
	b.told(data(1, 1, whole(1, 1), false))
	b.writes(other, whole(2, 1))
	b.told(data(2, 1, whole(2, 1), false))
	// Whichever port it goes to: the port that it comes from tells the flow.
	b.hosts = nil
	p := question(1000)
	p.Dport, p.Seq, p.Flags, p.Data = 99, uint32(8+len(whole(1, 1))), ack, whole(3, 1)[:32]
	p.Ack = 1
	b.Lan(bytesOf(t, packet.Put, p))
	b.flows(api.Flow{ID: 1, Port: 1000, State: api.Established, Sent: 1}, api.Flow{ID: 2, Port: 1001, State: api.Established, Sent: 1})
	b.passes(2)
	b.told(data(1, 2, whole(3, 1)[:32], false))
	// A flow that is broken is still one of its port.
	b.says(broken(2))
	b.forget()
	p = question(1001)
	b.Lan(bytesOf(t, packet.Put, p))
	refusal, _ := packet.Refuse(p)
	b.gave(refusal)
	b.handed()
	b.told()
	b.counts(api.Count{Literals: 3, Broken: 1, Epochs: 1})
	b.forget()
}

func TestP14_2Full(t *testing.T) {
	b := meets(t, api.BoxL, 0, 0)
	b.open8()
	p := question(2000)
	b.Lan(bytesOf(t, packet.Put, p))
	b.handed(p)
	p.Probe = 9 // it is not the box's, for that has a session
	b.Lan(bytesOf(t, packet.Put, p))
	b.handed(p)
	b.counts(api.Count{Passed: 2, Epochs: 1})
	b.says(broken(3))
	b.passes(31)
	b.Lan(bytesOf(t, packet.Put, p))
	b.handed(p)
	b.passes(1)
	if n := len(b.Flows()); n != 7 {
		t.Fatalf("%d flows", n)
	}
	b.opens(9, 2000)
	b.counts(api.Count{Passed: 3, Broken: 1, Epochs: 1})
	if l := b.Flows(); l[7].ID != 9 || l[2].ID != 4 {
		t.Fatalf("%v", l)
	}
}

func TestP14_2Opened255(t *testing.T) {
	b := meets(t, api.BoxL, 1, 5)
	for id := 1; id <= 255; id++ {
		b.Lan(bytesOf(t, packet.Put, question(id)))
		b.told(open(id, id, 80))
		if id == 255 {
			b.gave(api.Packet{Src: api.Right, Sport: 80, Dst: api.Left, Dport: id, Seq: 5 + 1<<24 + 254<<16, Ack: 8, Flags: syn | ack, Window: 1024})
		}
		b.says(broken(id))
		b.forget()
		if id%8 == 0 {
			b.passes(32)
			b.flows()
		}
	}
	b.passes(32)
	b.flows()
	b.Lan(bytesOf(t, packet.Put, question(1000)))
	b.handed(question(1000))
	b.flows()
}

func TestP14_2Right(t *testing.T) {
	b := meets(t, api.BoxR, 0, 0)
	h := b.opens(9, 1000)
	other := b.opens(4, 1001)
	b.writes(h, whole(1, 1))
	b.told(data(9, 1, whole(1, 1), false))
	b.writes(other, whole(2, 1))
	b.told(data(4, 1, whole(2, 1), false))
	b.hosts = nil
	// The port here is asked for, not that of Left.
	p := api.Packet{Src: api.Right, Sport: 80, Dst: api.BoxR, Dport: 1000, Seq: 5, Ack: 9, Flags: ack}
	b.Lan(bytesOf(t, packet.Put, p))
	b.gave(api.Packet{Src: api.BoxR, Sport: 1000, Dst: api.Right, Dport: 80, Seq: 9, Ack: 5, Flags: rst | ack})
	p.Dport, p.Sport = 2000, 99 // whichever port it comes from
	p.Seq, p.Ack, p.Data = uint32(501+len(whole(1, 1))), 1, whole(3, 1)[:32]
	b.Lan(bytesOf(t, packet.Put, p))
	b.passes(2)
	b.told(data(9, 2, whole(3, 1)[:32], false))
	b.counts(api.Count{Literals: 3, Epochs: 1})
	b.forget()
	p.Dport = 2002
	p.Flags = rst
	b.Lan(bytesOf(t, packet.Put, p))
	b.nothing()
}

func TestP14_3Ways(t *testing.T) {
	for _, flags := range []int{syn, syn | ack, ack, rst, 0, 15} {
		crossing(func(src, dst int) {
			for _, probe := range []int{0, 77} {
				p := api.Packet{Src: src, Dst: dst, Sport: 1000, Dport: 80, Seq: 5, Ack: 6, Flags: flags, Window: 9, Probe: probe, Origin: 3, Data: []byte("abc")}
				plain := p
				plain.Probe = 0
				for _, side := range []int{api.BoxL, api.BoxR} {
					b := begins(t, side, 0, 0)
					b.Wan(bytesOf(t, packet.Put, p))
					passed := 1
					lan, wan := b.Out()
					switch {
					case side == api.BoxL && src == api.Right && dst == api.Left:
						one(t, lan, bytesOf(t, packet.Put, p))
						one(t, wan)
					case side == api.BoxR && src == api.Left && dst == api.Right:
						one(t, lan, bytesOf(t, packet.Put, plain))
						if probe == 0 {
							one(t, wan)
						} else {
							one(t, wan, bytesOf(t, tunnel.Put, api.Frame{Kind: api.FHello, From: 1, You: 77}))
						}
					default:
						passed = 0
						one(t, lan)
						one(t, wan)
					}
					b.counts(api.Count{Passed: passed})
					b.ends(1, 0, 0, false)
				}
			}
		})
	}
}

// one asks whether a list is what it should be.
func one(t *testing.T, got [][]byte, want ...[]byte) {
	t.Helper()
	if !slices.EqualFunc(got, want, bytes.Equal) {
		t.Fatalf("% x, not % x", got, want)
	}
}

func TestP14_3Example(t *testing.T) {
	l, _ := box.New(3, 0, 0)
	p := api.Packet{Src: 1, Dst: 2, Sport: 1000, Dport: 80, Seq: 5, Flags: syn, Window: 9}
	l.Lan(bytesOf(t, packet.Put, p))
	lan, wan := l.Out()
	probed := p
	probed.Probe = 1
	one(t, lan)
	one(t, wan, bytesOf(t, packet.Put, probed))
	r, _ := box.New(4, 0, 0)
	r.Wan(wan[0])
	lan, wan = r.Out()
	one(t, lan, bytesOf(t, packet.Put, p))
	one(t, wan, bytesOf(t, tunnel.Put, api.Frame{Kind: api.FHello, From: 1, You: 1}))
}

// A probe is answered within a session, too: it may be another box's.
func TestP14_3Probe(t *testing.T) {
	b := meets(t, api.BoxR, 2, 0)
	p := question(1000)
	p.Probe = 5
	b.Wan(bytesOf(t, packet.Put, p))
	lan, wan := b.Out()
	one(t, lan, bytesOf(t, packet.Put, question(1000)))
	one(t, wan, bytesOf(t, tunnel.Put, api.Frame{Kind: api.FHello, From: 2<<20 + 1, You: 5}))
	b.ends(2<<20+1, 7, 1, true)
}

func TestP14_3PastFlow(t *testing.T) {
	b := meets(t, api.BoxL, 0, 0)
	b.opens(1, 1000)
	b.hosts = nil
	p := api.Packet{Src: api.Right, Sport: 80, Dst: api.Left, Dport: 1000, Seq: 5, Flags: syn | ack}
	b.Wan(bytesOf(t, packet.Put, p))
	b.nothing()
	b.says(broken(1))
	b.forget()
	b.Wan(bytesOf(t, packet.Put, p))
	b.nothing()
	p.Dport = 1001
	b.Wan(bytesOf(t, packet.Put, p))
	b.gave(p)
	b.counts(api.Count{Passed: 1, Broken: 1, Epochs: 1})
	b.passes(32)
	p.Dport = 1000
	b.Wan(bytesOf(t, packet.Put, p))
	b.gave(p)

	// BoxR has no ears for the host Left's own: a flow of that port is another connection.
	b = meets(t, api.BoxR, 0, 0)
	b.opens(1, 1000)
	b.Wan(bytesOf(t, packet.Put, question(1000)))
	b.gave(question(1000))
}

func TestP14_3NoDatagram(t *testing.T) {
	both(t, func(b *bench) {
		b.opens(1, 1000)
		x := bytesOf(t, record.Put, broken(1))
		f := bytesOf(t, tunnel.Put, api.Frame{Kind: api.FData, From: 7, You: 1, Seq: 2, Body: x})
		b.Wan(nil)
		b.Wan(make([]byte, 22))
		for i := range f {
			y := bytes.Clone(f)
			y[i] ^= 16
			b.Wan(y)
			b.Wan(f[:i])
		}
		// Nor does one of a stranger, or of another time, tell anything.
		b.Wan(bytesOf(t, tunnel.Put, api.Frame{Kind: api.FData, From: 8, You: 1, Seq: 2, Body: x}))
		b.Wan(bytesOf(t, tunnel.Put, api.Frame{Kind: api.FData, From: 6, You: 2, Seq: 2, Body: x}))
		b.nothing()
		b.ends(1, 7, 1, true)
		b.counts(api.Count{Epochs: 1})
	})
}

func TestP14_3NoNote(t *testing.T) {
	both(t, func(b *bench) {
		h := b.opens(1, 1000)
		x := bytesOf(t, record.Put, broken(1))
		b.sends(nil)
		b.sends([]byte("x"))
		b.sends(x[:1])
		b.sends(append(bytes.Clone(x), 0))
		b.sends([]byte{api.NFin, 0})
		b.nothing()
		b.counts(api.Count{Epochs: 1})
		b.sends(x)
		b.state(h, api.Reset)
	})
}

func TestP14_3Open(t *testing.T) {
	for boot := range map[int]bool{0: true, 1: true, 40: true} {
		for _, iss := range []uint32{0, 7, math.MaxUint32} {
			b := meets(t, api.BoxR, boot, iss)
			for i, n := range []api.Note{open(5, 1000, 80), open(1, 65535, 1), open(1<<30, 1, 65535)} {
				b.says(n)
				first := iss + uint32(boot)<<24 + uint32(i)<<16
				b.gave(api.Packet{Src: api.BoxR, Sport: 2000 + 256*boot + i, Dst: api.Right, Dport: n.Dport, Seq: first, Flags: syn, Window: 1024, Origin: n.Port})
				b.says(n) // there is a flow of that id
				b.says(open(n.Flow, 9, 9))
				b.nothing()
			}
			b.flows(api.Flow{ID: 5, Port: 1000, State: api.SynSent}, api.Flow{ID: 1, Port: 65535, State: api.SynSent}, api.Flow{ID: 1 << 30, Port: 1, State: api.SynSent})
		}
	}
	b := meets(t, api.BoxL, 0, 0)
	b.says(open(1, 1000, 80))
	b.nothing()
	b.flows()
	b.opens(1, 1000)
	b.says(open(1, 1000, 80))
	b.nothing()
	b.flows(api.Flow{ID: 1, Port: 1000, State: api.Established})
}

func TestP14_3OpenFull(t *testing.T) {
	b := meets(t, api.BoxR, 0, 0)
	b.open8()
	b.says(open(9, 1, 80))
	b.told(broken(9))
	b.says(open(1, 1, 80))
	b.told()
	b.says(broken(9), broken(4))
	b.passes(31)
	b.says(open(9, 1, 80))
	b.told(broken(9))
	b.passes(1)
	b.opens(9, 1)
}

func TestP14_3Open255(t *testing.T) {
	b := meets(t, api.BoxR, 2, 0)
	for id := 1; id <= 255; id++ {
		b.says(open(id, 1000, 80))
		b.gave(api.Packet{Src: api.BoxR, Sport: 2511 + id, Dst: api.Right, Dport: 80, Seq: 2<<24 + uint32(id-1)<<16, Flags: syn, Window: 1024, Origin: 1000})
		b.says(broken(id))
		if id%8 == 0 {
			b.passes(32)
		}
	}
	b.passes(32)
	b.flows()
	b.says(open(256, 1000, 80))
	b.told(broken(256))
	b.flows()
}

func TestP14_3NoFlow(t *testing.T) {
	both(t, func(b *bench) {
		b.opens(1, 1000)
		for _, id := range []int{2, 9, 1 << 30} {
			b.says(data(id, 1, whole(1, 1), false))
			b.told(broken(id))
			b.says(miss(id, 1))
			b.told(broken(id))
			b.says(done(id, 1))
			b.told(broken(id))
			b.says(end(id))
			b.told(broken(id))
			b.says(broken(id))
			b.told()
		}
		b.counts(api.Count{Epochs: 1})
		if l := b.Chunks(); len(l) != 0 {
			t.Errorf("%v is known", l)
		}
	})
}

func TestP14_3BrokenFlow(t *testing.T) {
	both(t, func(b *bench) {
		h := b.opens(1, 1000)
		b.says(broken(1))
		b.state(h, api.Reset)
		was := b.Flows()
		if len(was) != 1 || !was[0].Broken || was[0].ID != 1 {
			t.Fatalf("%v", was)
		}
		b.says(data(1, 1, whole(1, 1), false), data(1, 5, whole(1, 1), true), miss(1, 1), done(1, 1), end(1), broken(1), open(1, 1, 1))
		b.nothing()
		b.flows(was...)
		b.counts(api.Count{Broken: 1, Epochs: 1})
	})
}

func TestP14_3Data(t *testing.T) {
	both(t, func(b *bench) {
		h := b.opens(1, 1000)
		b.says(data(1, 1, []byte("abc"), false))
		b.told(done(1, 1))
		b.reads(h, []byte("abc"))
		b.says(data(1, 2, []byte("abc"), true))
		b.told(done(1, 2))
		b.reads(h, []byte("abc"))
		b.says(data(1, 2, []byte("abc"), true), data(1, 1, []byte("x"), false)) // they came before
		b.told()
		b.reads(h, nil)
		b.counts(api.Count{Epochs: 1})
	})
}

func TestP14_3DataMissed(t *testing.T) {
	both(t, func(b *bench) {
		h := b.opens(1, 1000)
		b.says(data(1, 1, []byte("abc"), true))
		b.told(miss(1, 1))
		b.says(data(1, 2, []byte("def"), false), data(1, 3, []byte("ghi"), true))
		b.told(miss(1, 3))
		b.reads(h, nil)
		b.flows(api.Flow{ID: 1, Port: 1000, State: api.Established, Held: 3})
		b.says(data(1, 1, []byte("abc"), true)) // it is missed still
		b.told(miss(1, 1))
		b.says(data(1, 1, []byte("abc"), false))
		b.told(done(1, 2))
		b.reads(h, []byte("abcdef"))
		b.says(data(1, 3, []byte("ghi"), false))
		b.told(done(1, 3))
		b.reads(h, []byte("ghi"))
		b.counts(api.Count{Misses: 3, Epochs: 1})
	})
}

func TestP14_3DataWrong(t *testing.T) {
	turned := data(1, 1, []byte("abc"), false)
	turned.Rec.Data = []byte("abd")
	torn := data(1, 1, make([]byte, 200), false)
	torn.Rec.Size = 199
	for _, n := range []api.Note{data(1, 2, []byte("abc"), false), data(1, 9, []byte("abc"), true), turned, torn} {
		both(t, func(b *bench) {
			h := b.opens(1, 1000)
			b.says(n)
			b.told(broken(1))
			b.state(h, api.Reset)
			b.counts(api.Count{Broken: 1, Epochs: 1})
			b.flows(api.Flow{ID: 1, Port: 1000, State: api.Reset, Broken: true})
		})
	}
}

func TestP14_3Miss(t *testing.T) {
	both(t, func(b *bench) {
		h := b.opens(1, 1000)
		x := whole(1, 1)
		b.writes(h, slices.Concat(x, x))
		b.told(data(1, 1, x, false), data(1, 2, x, true))
		b.says(miss(1, 2), miss(1, 2))
		b.told(data(1, 2, x, false), data(1, 2, x, false))
		b.counts(api.Count{Refs: 1, Literals: 3, Epochs: 1})
		b.says(done(1, 2))
		b.says(miss(1, 2)) // it was delivered
		b.told(broken(1))
		b.state(h, api.Reset)
		b.counts(api.Count{Refs: 1, Literals: 3, Broken: 1, Epochs: 1})
	})
	both(t, func(b *bench) {
		h := b.opens(1, 1000)
		b.says(miss(1, 1)) // nothing was sent
		b.told(broken(1))
		b.state(h, api.Reset)
		b.counts(api.Count{Broken: 1, Epochs: 1})
	})
}

func TestP14_3Done(t *testing.T) {
	for _, wrong := range []int{1, 4, 1 << 30} {
		both(t, func(b *bench) {
			h := b.opens(1, 1000)
			b.writes(h, whole(1, 3))
			b.told(all(1, 1, whole(1, 3))...)
			b.says(done(1, 2))
			b.flows(api.Flow{ID: 1, Port: 1000, State: api.Established, Sent: 1})
			b.says(done(1, 2))
			b.told()
			b.flows(api.Flow{ID: 1, Port: 1000, State: api.Established, Sent: 1})
			b.says(done(1, wrong))
			b.told(broken(1))
			b.state(h, api.Reset)
			b.counts(api.Count{Literals: 3, Broken: 1, Epochs: 1})
		})
	}
}

func TestP14_3Fin(t *testing.T) {
	both(t, func(b *bench) {
		h := b.opens(1, 1000)
		b.says(data(1, 1, []byte("abc"), false), data(1, 2, []byte("def"), true))
		b.told(done(1, 1), miss(1, 2))
		b.says(end(1))
		b.settle()
		if e := h.End(); e.Fin || e.Ready != 3 {
			t.Fatalf("%+v: what is missed is not there", e)
		}
		b.says(data(1, 2, []byte("def"), false))
		b.told(done(1, 2))
		b.reads(h, []byte("abcdef"))
		if e := h.End(); !e.Fin || e.State != api.Established {
			t.Fatalf("%+v: the end was told", e)
		}
		b.nothing()
		// The other direction goes on.
		b.writes(h, whole(1, 1))
		b.told(all(1, 1, whole(1, 1))...)
		h.Close()
		b.told(end(1))
		b.state(h, api.Over)
		b.counts(api.Count{Misses: 1, Literals: 1, Epochs: 1})
	})
}

func TestP14_3Rst(t *testing.T) {
	both(t, func(b *bench) {
		h := b.opens(1, 1000)
		x := whole(1, 9)
		b.writes(h, x)
		b.forget()
		b.says(data(1, 1, whole(2, 1), true))
		b.told(miss(1, 1))
		b.says(broken(1))
		b.told()
		b.state(h, api.Reset)
		b.flows(api.Flow{ID: 1, Port: 1000, State: api.Reset, Held: 1, Broken: true})
		b.passes(8)
		b.nothing()
	})
	// Of one whose host did not answer yet no packet can tell it.
	b := meets(t, api.BoxR, 0, 0)
	b.says(open(1, 1000, 80))
	b.forget()
	b.says(broken(1))
	b.nothing()
	b.flows(api.Flow{ID: 1, Port: 1000, State: api.Reset, Broken: true})
}

// Of messages that come to be told at once each one is taken, and then all goes on.
func TestP14_3AtOnce(t *testing.T) {
	both(t, func(b *bench) {
		h := b.opens(1, 1000)
		b.saysAtOnce(data(1, 1, []byte("abc"), false), data(1, 2, []byte("def"), false), data(2, 1, []byte("x"), false), end(1))
		b.told(broken(2), done(1, 2))
		b.reads(h, []byte("abcdef"))
		if !h.End().Fin {
			t.Fatal("the end was told")
		}
		b.saysAtOnce(broken(1), data(1, 3, []byte("x"), false))
		b.told()
		b.state(h, api.Reset)
		b.counts(api.Count{Broken: 1, Epochs: 1})
	})
	b := meets(t, api.BoxR, 0, 0)
	b.saysAtOnce(open(1, 1000, 80), broken(1), open(2, 1001, 80), data(2, 1, []byte("abc"), false))
	b.gave(
		api.Packet{Src: api.BoxR, Sport: 2000, Dst: api.Right, Dport: 80, Flags: syn, Window: 1024, Origin: 1000}, // it had asked before it broke
		api.Packet{Src: api.BoxR, Sport: 2001, Dst: api.Right, Dport: 80, Seq: 1 << 16, Flags: syn, Window: 1024, Origin: 1001},
	)
	b.flows(api.Flow{ID: 1, Port: 1000, State: api.Reset, Broken: true}, api.Flow{ID: 2, Port: 1001, State: api.SynSent})
	b.told(done(2, 1)) // the endpoint has it
}

func TestP14_3NewSession(t *testing.T) {
	both(t, func(b *bench) {
		h, other := b.opens(1, 1000), b.opens(2, 1001)
		b.writes(h, whole(1, 9))
		b.says(data(2, 1, []byte("abc"), true))
		b.says(broken(2))
		b.forget()
		b.passes(4)
		b.counts(api.Count{Literals: 8, Misses: 1, Broken: 1, Epochs: 1})
		// The other box began anew.
		b.far, _ = tunnel.New(yours + 1)
		b.meets()
		b.ends(1, 8, 2, true)
		b.told()
		b.state(h, api.Reset)
		b.state(other, api.Reset)
		b.flows(api.Flow{Port: 1000, State: api.Reset, Broken: true}, api.Flow{Port: 1001, State: api.Reset, Held: 1, Broken: true})
		b.counts(api.Count{Literals: 8, Misses: 1, Broken: 2, Epochs: 2})
		b.says(done(1, 1))
		b.told(broken(1))
		b.says(end(2))
		b.told(broken(2))
		// The numbers go on.
		b.opens(3, 1002)
		b.flows(
			api.Flow{Port: 1000, State: api.Reset, Broken: true}, api.Flow{Port: 1001, State: api.Reset, Held: 1, Broken: true},
			api.Flow{ID: 3, Port: 1002, State: api.Established},
		)
		b.passes(27)
		if n := len(b.Flows()); n != 3 {
			t.Fatalf("%d flows", n)
		}
		b.passes(1)
		if n := len(b.Flows()); n != 2 {
			t.Fatalf("%d flows", n)
		}
		b.passes(4)
		b.flows(api.Flow{ID: 3, Port: 1002, State: api.Established})
		b.nothing()
	})
}

// Notes of a session that is over are told to nobody.
func TestP14_3NewSessionNotes(t *testing.T) {
	both(t, func(b *bench) {
		b.stuff()
		b.far, _ = tunnel.New(yours + 1)
		b.lossy = false
		b.meets()
		b.passes(8)
		b.nothing()
	})
}

// stuff lets the box tell more notes than its tunnel takes: of flows that there are not, of the ids from 100 on. No message comes to the other box any more.
func (b *bench) stuff() []api.Note {
	b.Helper()
	b.lossy = true
	var notes []api.Note
	for id := 100; id < 100+api.Queue+20; id++ {
		b.says(end(id))
		b.settle()
		notes = append(notes, broken(id))
	}
	return notes
}

func TestP14_4SessionGone(t *testing.T) {
	both(t, func(b *bench) {
		h := b.opens(1, 1000)
		b.writes(h, whole(1, 9))
		b.forget()
		b.deaf = true
		tick := func(n int) {
			for range n {
				b.Tick()
				b.settle()
			}
		}
		tick(63)
		b.state(h, api.Established)
		b.ends(1, 7, 1, true)
		tick(1)
		b.state(h, api.Reset)
		b.ends(2, 7, 2, false)
		b.flows(api.Flow{Port: 1000, State: api.Reset, Broken: true})
		b.counts(api.Count{Literals: 8, Broken: 1, Epochs: 2})
		b.nothing()
		// It rested for a tick already.
		tick(30)
		b.flows(api.Flow{Port: 1000, State: api.Reset, Broken: true})
		tick(1)
		b.flows()
	})
}

// Notes that wait go when there is room, in their order.
func TestP14_2NotesWait(t *testing.T) {
	both(t, func(b *bench) {
		notes := b.stuff()
		b.told()
		b.lossy = false
		b.passes(30)
		b.told(notes...)
	})
}

// Records are sent behind all notes that wait.
func TestP14_2NotesFirst(t *testing.T) {
	both(t, func(b *bench) {
		h := b.opens(1, 1000)
		notes := b.stuff()
		b.writes(h, whole(1, 2))
		b.flows(api.Flow{ID: 1, Port: 1000, State: api.Established})
		b.says(data(1, 1, whole(2, 1), true))
		b.lossy = false
		b.passes(30)
		b.told(append(append(notes, miss(1, 1)), all(1, 1, whole(1, 2))...)...)
	})
}

func TestP14_2HostBroke(t *testing.T) {
	both(t, func(b *bench) {
		h, other := b.opens(1, 1000), b.opens(2, 1001)
		b.writes(h, whole(1, 9))
		b.forget()
		h.Abort()
		b.told(broken(1))
		b.flows(api.Flow{ID: 1, Port: 1000, State: api.Reset, Broken: true}, api.Flow{ID: 2, Port: 1001, State: api.Established})
		b.counts(api.Count{Literals: 8, Broken: 1, Epochs: 1})
		b.passes(31)
		b.told()
		if n := len(b.Flows()); n != 2 {
			t.Fatalf("%d flows", n)
		}
		b.passes(1)
		b.flows(api.Flow{ID: 2, Port: 1001, State: api.Established})
		b.writes(other, whole(2, 1))
		b.told(all(2, 1, whole(2, 1))...)
	})
}

// A host that says nothing any more is given up.
func TestP14_4HostGone(t *testing.T) {
	both(t, func(b *bench) {
		b.opens(1, 1000)
		b.hosts = nil
		b.passes(127)
		b.told()
		b.forget()
		b.passes(1)
		b.told(broken(1))
		if len(b.lan) != 1 || b.lan[0].Flags != rst|ack {
			t.Fatalf("%v", b.lan)
		}
		b.forget()
		b.counts(api.Count{Broken: 1, Epochs: 1})
	})
}

// A chunk is written when there is room for all of it; only then is it told as delivered.
func TestP14_2InRoom(t *testing.T) {
	both(t, func(b *bench) {
		h := b.opens(1, 1000)
		x := text(5, 9*250)
		for i := range 8 {
			b.says(data(1, i+1, x[250*i:250*i+250], false))
		}
		// The host and the endpoint have room for 1024 bytes each.
		b.told(done(1, 1), done(1, 2), done(1, 3), done(1, 4), done(1, 5), done(1, 6), done(1, 7), done(1, 8))
		b.says(data(1, 9, x[2000:], false))
		b.told()
		b.flows(api.Flow{ID: 1, Port: 1000, State: api.Established, Held: 1})
		if n := h.End().Ready; n != 1024 {
			t.Fatalf("%d bytes came", n)
		}
		b.reads(h, x[:1024])
		b.told(done(1, 9))
		b.reads(h, x[1024:2048])
		b.reads(h, x[2048:])
		b.flows(api.Flow{ID: 1, Port: 1000, State: api.Established})
	})
}

// There is just so much room: one byte more does not go in.
func TestP14_2InJustRoom(t *testing.T) {
	for more := range 2 {
		both(t, func(b *bench) {
			h := b.opens(1, 1000)
			b.hosts = nil // the host says nothing
			x := text(5, 1025)
			for i := range 4 {
				b.says(data(1, i+1, x[255*i:255*i+255], false))
			}
			b.told(done(1, 1), done(1, 2), done(1, 3), done(1, 4))
			b.says(data(1, 5, x[1020:1024+more], false))
			if more == 0 {
				b.told(done(1, 5))
			} else {
				b.told()
			}
			b.forget()
			b.hosts = append(b.hosts, h)
			b.passes(8)
			if more == 1 {
				b.told(done(1, 5))
			}
			b.reads(h, x[:1024])
			b.passes(4)
			b.reads(h, x[1024:1024+more])
		})
	}
}

// Several chunks that are written at once are told as delivered by one note.
func TestP14_2InTellsOnce(t *testing.T) {
	both(t, func(b *bench) {
		h := b.opens(1, 1000)
		b.saysAtOnce(data(1, 1, []byte("abc"), false), data(1, 2, []byte("def"), false), data(1, 3, []byte("ghi"), false))
		b.told(done(1, 3))
		b.passes(5)
		b.told()
		b.reads(h, []byte("abcdefghi"))
	})
}

// No more than 8 records wait to be delivered.
func TestP14_2OutRetain(t *testing.T) {
	both(t, func(b *bench) {
		h := b.opens(1, 1000)
		x := whole(1, 12)
		b.writes(h, x)
		l := all(1, 1, x)
		b.told(l[:8]...)
		b.flows(api.Flow{ID: 1, Port: 1000, State: api.Established, Sent: 8})
		b.passes(5)
		b.told()
		b.says(done(1, 1))
		b.told(l[8])
		b.says(done(1, 9))
		b.told(l[9:]...)
		b.flows(api.Flow{ID: 1, Port: 1000, State: api.Established, Sent: 3})
	})
}

// What can't go is not read: the host's bytes stay with it.
func TestP14_2OutReadsNoMore(t *testing.T) {
	both(t, func(b *bench) {
		h := b.opens(1, 1000)
		x := whole(1, 40)
		n := 0
		for range 40 {
			n += h.Write(x[n:])
			b.settle()
		}
		read := len(bytes.Join(cuts(x)[:8], nil))
		read = (read + 255) / 256 * 256
		if most := read + 2*api.Buffer; n > most || n < most-256 {
			t.Fatalf("%d bytes were taken; there is room for %d", n, most)
		}
		b.forget()
	})
}

// A tunnel keeps room for 8 messages that are no records.
func TestP14_2OutRoom(t *testing.T) {
	both(t, func(b *bench) {
		l := b.open8()
		b.deaf = true
		for i, h := range l {
			b.writes(h, whole(i+1, 9))
			want := 8
			if i == 7 {
				want = 0
			}
			if f := b.Flows()[i]; f.Sent != want {
				t.Fatalf("%d records of flow %d wait, not %d", f.Sent, i+1, want)
			}
		}
		b.deaf = false
		b.passes(4)
		for i, f := range b.Flows() {
			if f.Sent != 8 {
				t.Fatalf("%d records of flow %d wait, not 8", f.Sent, i+1)
			}
		}
		var want []api.Note
		for i := range l {
			want = append(want, all(i+1, 1, whole(i+1, 9))[:8]...)
		}
		b.told(want...)
	})
}

// What is pending waits for two ticks in which nothing is read.
func TestP14_2OutQuiet(t *testing.T) {
	both(t, func(b *bench) {
		h := b.opens(1, 1000)
		b.writes(h, []byte("abc"))
		b.passes(1)
		b.told()
		b.writes(h, []byte("def"))
		b.passes(1)
		b.told()
		b.passes(1)
		b.told(data(1, 1, []byte("abcdef"), false))
		b.writes(h, []byte("ghi")) // it was quiet before that; but now it was read
		b.told()
		b.passes(1)
		b.told()
		b.passes(1)
		b.told(data(1, 2, []byte("ghi"), false))
		b.passes(9)
		b.told()
	})
}

// The end is told behind all bytes, which wait no more then.
func TestP14_2OutEnd(t *testing.T) {
	both(t, func(b *bench) {
		h := b.opens(1, 1000)
		b.writes(h, []byte("abc"))
		b.told()
		h.Close()
		b.told(data(1, 1, []byte("abc"), false), end(1))
		b.passes(40)
		b.told()
		if b.state(h, api.Established); len(b.Flows()) != 1 {
			t.Fatal("the other end was not told")
		}
	})
	both(t, func(b *bench) {
		h := b.opens(1, 1000)
		h.Close()
		b.told(end(1))
	})
	both(t, func(b *bench) {
		h := b.opens(1, 1000)
		b.writes(h, whole(1, 1)) // nothing is pending behind it
		h.Close()
		b.told(data(1, 1, whole(1, 1), false), end(1))
	})
	// As long as there is a chunk that may not be sent, the end is not told.
	both(t, func(b *bench) {
		h := b.opens(1, 1000)
		x := append(whole(1, 9), "rest"...)
		b.writes(h, x)
		h.Close()
		l := all(1, 1, x)
		b.told(l[:8]...)
		b.passes(9)
		b.told()
		b.says(done(1, 1))
		b.told(l[8])
		b.says(done(1, 2))
		b.told(l[9], end(1))
	})
}

// Bytes are cut by their content, in whichever pieces they come.
func TestP14_2OutCut(t *testing.T) {
	both(t, func(b *bench) {
		h := b.opens(1, 1000)
		x := slices.Concat(make([]byte, 600), whole(1, 3))
		var want []api.Note
		for i, c := range cuts(x) {
			want = append(want, data(1, i+1, c, i == 1)) // two chunks of 256 noughts
		}
		for i := 0; i < len(x); i += 77 {
			b.writes(h, x[i:min(i+77, len(x))])
		}
		b.told(want...)
		b.counts(api.Count{Refs: 1, Literals: len(want) - 1, Epochs: 1})
	})
}

// A flow knows what another one sent, and what came.
func TestP14_2OutKnown(t *testing.T) {
	both(t, func(b *bench) {
		one, other := b.opens(1, 1000), b.opens(2, 1001)
		x, y := whole(1, 1), whole(2, 1)
		b.writes(one, x)
		b.says(data(1, 1, y, false))
		b.forget()
		b.writes(other, slices.Concat(x, y))
		b.told(data(2, 1, x, true), data(2, 2, y, true))
		b.reads(one, y)
		b.counts(api.Count{Refs: 2, Literals: 1, Epochs: 1})
	})
}

// What breaks lets its chunks go: they are held no longer.
func TestP14_2BrokenLetsGo(t *testing.T) {
	both(t, func(b *bench) {
		x := whole(1, 8)
		b.writes(b.opens(1, 1000), x)
		b.says(broken(1))
		b.forget()
		h := b.opens(2, 1001)
		for i := range 12 {
			for j, c := range cuts(whole(9+i, 6)) {
				b.says(data(2, 1+6*i+j, c, false))
			}
			h.Read(2000)
			b.settle()
			h.Read(2000)
			b.settle()
		}
		known := b.Chunks()
		for _, c := range cuts(x) {
			if slices.Contains(known, digest.Of(c)) {
				t.Fatal("a chunk of a broken flow is held")
			}
		}
		b.forget()
	})
}

func TestP14_4Again(t *testing.T) {
	b := meets(t, api.BoxR, 0, 0)
	b.says(open(1, 1000, 80))
	ask := api.Packet{Src: api.BoxR, Sport: 2000, Dst: api.Right, Dport: 80, Flags: syn, Window: 1024, Origin: 1000}
	b.gave(ask)
	b.passes(3)
	b.gave()
	b.passes(1)
	b.gave(ask)
	b.passes(4)
	b.gave(ask)
	b.deaf = true
	b.says(broken(9))
	b.Out()
	b.deaf = false
	b.says(end(9))
	b.told(broken(9))
	b.Tick()
	b.nothing()
}

// A tick's messages: what was not acknowledged is sent again, and greetings go out.
func TestP14_4Tunnel(t *testing.T) {
	both(t, func(b *bench) {
		b.deaf = true
		b.says(end(5))
		b.Out()
		for i := 1; i <= 8; i++ {
			b.Tick()
			_, wan := b.Out()
			want := [][]byte{}
			if i%8 == 0 {
				want = append(want, bytesOf(t, tunnel.Put, api.Frame{Kind: api.FHello, From: 1, You: 7}))
			}
			if i%4 == 0 {
				want = append(want, bytesOf(t, tunnel.Put, api.Frame{Kind: api.FData, From: 1, You: 7, Seq: 1, Body: bytesOf(t, record.Put, broken(5))}))
			}
			one(t, wan, want...)
		}
	})
}

// Without a session, but of one that it knew, it is greeted.
func TestP14_4Greets(t *testing.T) {
	both(t, func(b *bench) {
		for range 64 {
			b.Tick()
		}
		b.Out()
		for i := 1; i <= 8; i++ {
			b.Tick()
			_, wan := b.Out()
			if i%4 != 0 {
				one(t, wan)
			} else {
				one(t, wan, bytesOf(t, tunnel.Put, api.Frame{Kind: api.FHello, From: 2, You: 7}))
			}
		}
	})
}

// A flow is gone 32 ticks after both ends were told and all was delivered.
func TestP14_4Rests(t *testing.T) {
	both(t, func(b *bench) {
		h := b.opens(1, 1000)
		b.writes(h, []byte("abc"))
		h.Close()
		b.told(data(1, 1, []byte("abc"), false), end(1))
		b.passes(50)
		b.says(end(1))
		b.state(h, api.Over)
		over := api.Flow{ID: 1, Port: 1000, State: api.Over, Sent: 1}
		b.flows(over)
		b.passes(50) // a record was not delivered
		b.flows(over)
		b.says(done(1, 1))
		over.Sent = 0
		b.passes(31)
		b.flows(over)
		b.passes(1)
		b.flows()
		b.counts(api.Count{Literals: 1, Epochs: 1})
		b.nothing()
	})
}

// An endpoint that is over has something to be sent still.
func TestP14_4RestsNot(t *testing.T) {
	both(t, func(b *bench) {
		h := b.opens(1, 1000)
		x := whole(1, 9)
		b.writes(h, x)
		h.Close()
		l := all(1, 1, x)
		b.says(end(1))
		b.state(h, api.Over)
		b.told(l[:8]...)
		over := api.Flow{ID: 1, Port: 1000, State: api.Over, Sent: 8}
		b.flows(over)
		b.passes(40)
		b.flows(over)
		b.says(done(1, 8))
		b.told(l[8], end(1))
		b.passes(40)
		b.says(done(1, 9))
		b.passes(32)
		b.flows()
	})
}

// One that is over has not told its end yet.
func TestP14_4RestsNotUntold(t *testing.T) {
	both(t, func(b *bench) {
		h := b.opens(1, 1000)
		b.says(end(1))
		notes := b.stuff()
		h.Write([]byte("abc"))
		h.Close()
		b.state(h, api.Over)
		b.passes(40)
		b.flows(api.Flow{ID: 1, Port: 1000, State: api.Over})
		b.lossy = false
		b.passes(10)
		b.told(append(notes, data(1, 1, []byte("abc"), false), end(1))...)
		b.says(done(1, 1))
		b.passes(31)
		b.flows(api.Flow{ID: 1, Port: 1000, State: api.Over})
		b.passes(1)
		b.flows()
	})
}

// Whoever is over may break still, and is counted as such; its host is told nothing.
func TestP14_3OverBreaks(t *testing.T) {
	both(t, func(b *bench) {
		h := b.opens(1, 1000)
		h.Close()
		b.says(end(1))
		b.told(end(1))
		b.state(h, api.Over)
		b.says(miss(1, 1))
		b.told(broken(1))
		b.flows(api.Flow{ID: 1, Port: 1000, State: api.Over, Broken: true})
		b.counts(api.Count{Broken: 1, Epochs: 1})
		b.state(h, api.Over)
		b.passes(32)
		b.flows()
	})
}

// The store has at most 64 chunks, and 8192 bytes of them.
func TestP14_6Store(t *testing.T) {
	for _, x := range []struct{ size, kept int }{{256, 32}, {200, 40}, {128, 64}, {9, 64}} {
		both(t, func(b *bench) {
			h := b.opens(1, 1000)
			var came [][]byte
			for i := range 100 {
				came = append(came, text(i, x.size))
				b.says(data(1, i+1, came[i], false))
				b.told(done(1, i+1))
				b.reads(h, came[i])
				b.chunks(came[max(0, i+1-x.kept):]...)
			}
		})
	}
}

func TestObjectsApart(t *testing.T) {
	a, b := meets(t, api.BoxL, 0, 0), meets(t, api.BoxL, 0, 0)
	h := a.opens(1, 1000)
	a.writes(h, whole(1, 3))
	a.forget()
	b.flows()
	b.chunks()
	b.counts(api.Count{Epochs: 1})
	a.says(broken(1))
	g := b.opens(1, 1000)
	b.writes(g, whole(1, 3))
	b.told(all(1, 1, whole(1, 3))...)
	b.flows(api.Flow{ID: 1, Port: 1000, State: api.Established, Sent: 3})
	a.ends(1, 7, 1, true)
}

func TestMemoryIsNew(t *testing.T) {
	for _, side := range []int{api.BoxL, api.BoxR} {
		b := begins(t, side, 0, 0)
		p := question(1000)
		p.Flags = ack
		if side == api.BoxR {
			p.Src, p.Dst = api.Right, api.Left
		}
		x := bytesOf(t, packet.Put, p)
		room := append(bytes.Clone(x), "behind"...)
		b.Lan(room[:len(x)])
		p.Src, p.Dst, p.Probe = p.Dst, p.Src, 5
		y := bytesOf(t, packet.Put, p)
		back := append(bytes.Clone(y), "behind"...)
		b.Wan(back[:len(y)])
		p.Probe = 0
		plain := append(bytesOf(t, packet.Put, p), "behind"...)
		b.Wan(plain[:len(plain)-6])
		if !bytes.Equal(room[:len(x)], x) || !bytes.Equal(back[:len(y)], y) {
			t.Fatal("what was handed in was changed")
		}
		for _, z := range [][]byte{room, back, plain} {
			if string(z[len(z)-6:]) != "behind" {
				t.Fatal("what stands behind was changed")
			}
			clear(z)
		}
		lan, wan := b.Out()
		if len(lan) != 2 || !bytes.Equal(wan[0], x) {
			t.Fatal("it is shared")
		}
		for _, z := range slices.Concat(lan, wan) {
			clear(z[:cap(z)])
		}
		clear(lan[:cap(lan)])
		clear(wan[:cap(wan)])
		b.Lan(x)
		_, wan = b.Out()
		one(t, wan, x)
	}
	both(t, func(b *bench) {
		h := b.opens(1, 1000)
		b.writes(h, whole(1, 2))
		was := b.Flows()
		known := b.Chunks()
		clear(b.Flows())
		clear(b.Chunks())
		b.flows(was...)
		if !slices.Equal(b.Chunks(), known) {
			t.Fatal("it is shared")
		}
		b.forget()
		f := bytesOf(t, tunnel.Put, api.Frame{Kind: api.FData, From: 7, You: 1, Seq: 1 + b.said(), Body: bytesOf(t, record.Put, data(1, 1, []byte("abc"), false))})
		b.Wan(f)
		clear(f)
		b.reads(h, []byte("abc"))
		b.forget()
	})
}

// said is how many messages the other box sent.
func (b *bench) said() int {
	if b.side == api.BoxR {
		return 1
	}
	return 0
}
