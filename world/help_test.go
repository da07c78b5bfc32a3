package world_test

import (
	"bytes"
	"fmt"
	"testing"

	"flume/api"
	"flume/packet"
	"flume/sums"
	"flume/tunnel"
	"flume/world"
)

// To whom something is on its way.
const (
	toLeft = iota
	toBoxL
	toBoxLWide
	toBoxRWide
	toBoxR
	toRight
)

const (
	left  = 0
	right = 1
)

// dice throws numbers that look like chance and are the same each time.
type dice uint64

func (d *dice) below(n int) int {
	*d = *d*6364136223846793005 + 1442695040888963407
	return int(*d >> 33 % dice(n))
}

// text is bytes that look like chance; those of unlike numbers differ.
func text(number, n int) []byte {
	d := dice(number)
	b := make([]byte, n)
	for i := range b {
		b[i] = byte(d.below(256))
	}
	return b
}

// play is a world, and what is asked of it behind each step.
type play struct {
	*testing.T
	*world.World
	ends   [2][api.MaxConns]api.End
	before []api.Stream
	bare   bool // probes never arrived, and nothing was forged
}

func plays(t *testing.T, iss uint32) *play {
	return &play{T: t, World: world.New(iss)}
}

// try does a step, and asks what holds behind each one.
func (w *play) try(s api.Step) api.Errno {
	w.Helper()
	e := w.Step(s)
	w.holds(s)
	return e
}

// do does a step that can be done.
func (w *play) do(s api.Step) {
	w.Helper()
	if e := w.try(s); e != api.OK {
		w.Fatalf("%+v: %d", s, int(e))
	}
}

// refused does a step that can't be done.
func (w *play) refused(s api.Step, want api.Errno) {
	w.Helper()
	before := w.all()
	if e := w.try(s); e != want {
		w.Fatalf("%+v: %d, not %d", s, int(e), int(want))
	}
	if now := w.all(); now != before {
		w.Fatalf("%+v, which is refused, changed\n%s\nto\n%s", s, before, now)
	}
}

// holds asks for P1, P2 and P5.
func (w *play) holds(s api.Step) {
	w.Helper()
	if w.moved() {
		w.honest(s)
	}
	w.bounds(s)
}

// moved tells whether a host has got on since it was asked last; where none has, its streams are as they were.
func (w *play) moved() bool {
	before := w.ends
	for side := range 2 {
		for conn := range api.MaxConns {
			w.ends[side][conn] = w.End(side, conn)
		}
	}
	return w.ends != before
}

// honest asks whether what was read was written, and the end is told behind all of it.
func (w *play) honest(s api.Step) {
	w.Helper()
	l := w.Streams()
	for i, x := range l {
		if !bytes.HasPrefix(x.Wrote, x.Got) {
			w.Fatalf("%+v: of connection %d, %q was read, but %q was written", s, x.Conn, x.Got, x.Wrote)
		}
		if x.Fin && (x.Broken || !x.Shut || len(x.Got) != len(x.Wrote)) {
			w.Fatalf("%+v: the end of connection %d was told to side %d behind %d of %d bytes", s, x.Conn, 1-x.Side, len(x.Got), len(x.Wrote))
		}
		if s.Kind != api.SDial && i < len(w.before) {
			if y := w.before[i]; y.Fin && !x.Fin && !x.Broken || y.Broken && !x.Broken || len(y.Got) > len(x.Got) {
				w.Fatalf("%+v: connection %d was %+v, and is %+v", s, x.Conn, y, x)
			}
		}
	}
	w.before = l
}

// bounds asks whether there is no more than may be.
func (w *play) bounds(s api.Step) {
	w.Helper()
	if n := len(w.Waiting()); n > api.MaxBag {
		w.Fatalf("%+v: %d are on their way", s, n)
	}
	for side := range 2 {
		b := w.Box(side)
		l := b.Flows()
		if len(l) > api.MaxFlows || len(b.Chunks()) > api.MaxChunks {
			w.Fatalf("%+v: %d flows, %d chunks", s, len(l), len(b.Chunks()))
		}
		for _, f := range l {
			if f.Sent > api.Retain || f.Held > api.Retain {
				w.Fatalf("%+v: %+v", s, f)
			}
		}
		if _, _, epoch, up := b.Ends(); w.bare && (up || epoch > 0 || len(l) > 0) {
			w.Fatalf("%+v: a session began", s)
		}
	}
}

// all is all that a world tells.
func (w *play) all() string {
	var s []any
	for _, id := range w.Waiting() {
		to, b, _ := w.Peek(id)
		s = append(s, id, to, b)
	}
	for side := range 2 {
		for conn := range api.MaxConns {
			s = append(s, w.End(side, conn))
		}
		b := w.Box(side)
		me, you, epoch, up := b.Ends()
		s = append(s, me, you, epoch, up, b.Count(), b.Flows(), b.Chunks())
	}
	return fmt.Sprintln(append(s, w.Streams())...)
}

func dial(conn int) api.Step { return api.Step{Kind: api.SDial, Conn: conn, N: api.Served} }
func take(id int) api.Step   { return api.Step{Kind: api.STake, N: id} }
func lose(id int) api.Step   { return api.Step{Kind: api.SLose, N: id} }
func double(id int) api.Step { return api.Step{Kind: api.SDouble, N: id} }
func tick() api.Step         { return api.Step{Kind: api.STick} }

func write(side, conn int, b []byte) api.Step {
	return api.Step{Kind: api.SWrite, Side: side, Conn: conn, Data: b}
}

func read(side, conn, n int) api.Step {
	return api.Step{Kind: api.SRead, Side: side, Conn: conn, N: n}
}

func shut(side, conn int) api.Step  { return api.Step{Kind: api.SClose, Side: side, Conn: conn} }
func abort(side, conn int) api.Step { return api.Step{Kind: api.SAbort, Side: side, Conn: conn} }
func restart(side int) api.Step     { return api.Step{Kind: api.SRestart, Side: side} }
func evict(side, n int) api.Step    { return api.Step{Kind: api.SEvict, Side: side, N: n} }
func probes(n int) api.Step         { return api.Step{Kind: api.SProbes, N: n} }

func forge(side int, b []byte) api.Step {
	return api.Step{Kind: api.SForge, Side: side, Data: b}
}

func spoil(id, place, mask int) api.Step {
	return api.Step{Kind: api.SSpoil, N: id, Place: place, Mask: mask}
}

// carry lets all come that is on its way.
func (w *play) carry() {
	w.Helper()
	for n := 0; len(w.Waiting()) > 0; n++ {
		if n > 100000 {
			w.Fatal("it goes on for ever")
		}
		w.do(take(w.Waiting()[0]))
	}
}

// calm lets so many ticks pass in which nothing is lost, and both hosts read.
func (w *play) calm(ticks int) {
	w.Helper()
	for range ticks {
		w.carry()
		for conn := range api.MaxConns {
			w.try(read(left, conn, 700))
			w.try(read(right, conn, 700))
		}
		w.do(tick())
	}
}

// up is a world whose boxes found one another by connection 11.
func up(t *testing.T, iss uint32) *play {
	t.Helper()
	w := plays(t, iss)
	w.do(dial(11))
	w.calm(3)
	w.do(abort(left, 11))
	w.calm(3)
	w.isUp()
	return w
}

// isUp asks for a session, of the numbers of both.
func (w *play) isUp() {
	w.Helper()
	me, you, _, up := w.Box(left).Ends()
	you2, me2, _, up2 := w.Box(right).Ends()
	if !up || !up2 || me != me2 || you != you2 {
		w.Fatal("no session")
	}
}

// open is connection conn, at both hosts.
func (w *play) open(conn int) {
	w.Helper()
	w.do(dial(conn))
	w.calm(3)
	if l, r := w.End(left, conn), w.End(right, conn); l.State != api.Established || r.State != api.Established {
		w.Fatalf("%+v, %+v", l, r)
	}
}

// sends lets a side write all of a text in calm.
func (w *play) sends(side, conn int, b []byte) {
	w.Helper()
	for range 200 {
		n := len(w.stream(side, conn).Wrote)
		w.do(write(side, conn, b))
		b = b[len(w.stream(side, conn).Wrote)-n:]
		w.calm(1)
		if len(b) == 0 {
			return
		}
	}
	w.Fatal("it is not taken")
}

// stream is what a side of a connection writes.
func (w *play) stream(side, conn int) api.Stream {
	for _, x := range w.Streams() {
		if x.Conn == conn && x.Side == side {
			return x
		}
	}
	return api.Stream{}
}

// ended asks whether each stream was read as far as it was written, and its end was told, or it is broken.
func (w *play) ended() {
	w.Helper()
	for _, x := range w.Streams() {
		whole := len(x.Got) == len(x.Wrote) && x.Fin == x.Shut
		nobody := w.End(1-x.Side, x.Conn) == api.End{} && w.End(x.Side, x.Conn).State == api.Reset
		if !whole && !x.Broken && !nobody {
			w.Fatalf("connection %d, side %d: %d of %d bytes were read; %+v; %+v; %+v; %+v", x.Conn, x.Side, len(x.Got), len(x.Wrote),
				w.End(left, x.Conn), w.End(right, x.Conn), w.Box(left).Flows(), w.Box(right).Flows())
		}
	}
}

// whole asks whether a side's stream came through whole.
func (w *play) whole(side, conn int) {
	w.Helper()
	x := w.stream(side, conn)
	if x.Broken || len(x.Got) != len(x.Wrote) || x.Fin != x.Shut {
		w.Fatalf("connection %d, side %d: %d of %d bytes, %v", conn, side, len(x.Got), len(x.Wrote), x.Broken)
	}
}

// bytesOf is what Put makes of something that may be.
func bytesOf[T any](t *testing.T, put func(T) ([]byte, api.Errno), x T) []byte {
	t.Helper()
	b, e := put(x)
	if e != api.OK {
		t.Fatalf("%v may not be: %d", x, int(e))
	}
	return b
}

// peek is to whom something is on its way, and its bytes without the seal.
func (w *play) peek(id int) (int, []byte) {
	w.Helper()
	to, b, e := w.Peek(id)
	if e != api.OK {
		w.Fatalf("%d is not on its way: %d", id, int(e))
	}
	x, e := sums.Open(b)
	if e != api.OK {
		w.Fatalf("%d is spoilt", id)
	}
	return to, x
}

// packet is a packet that is on its way.
func (w *play) packet(id, to int) api.Packet {
	w.Helper()
	whom, x := w.peek(id)
	p, e := packet.Get(x)
	if e != api.OK || whom != to {
		w.Fatalf("%d: % x goes to %d", id, x, whom)
	}
	return p
}

// frame is a datagram that is on its way.
func (w *play) frame(id, to int) api.Frame {
	w.Helper()
	whom, x := w.peek(id)
	f, e := tunnel.Get(x)
	if e != api.OK || whom != to {
		w.Fatalf("%d: % x goes to %d", id, x, whom)
	}
	return f
}
