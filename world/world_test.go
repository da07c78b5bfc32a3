package world_test

import (
	"bytes"
	"math"
	"slices"
	"testing"

	"flume/api"
	"flume/packet"
	"flume/sums"
	"flume/tunnel"
	"flume/world"
)

// waits asks for what is on its way.
func (w *play) waits(want ...int) {
	w.Helper()
	if l := w.Waiting(); !slices.Equal(l, want) {
		w.Fatalf("%v are on their way, not %v", l, want)
	}
}

// question is one of Left, or of whoever.
func question(src, sport, dst, dport int) api.Packet {
	return api.Packet{Src: src, Sport: sport, Dst: dst, Dport: dport, Flags: api.SYN, Window: 1024}
}

func TestP15_1New(t *testing.T) {
	w := plays(t, 77)
	w.waits()
	if l := w.Streams(); len(l) != 0 {
		t.Fatal(l)
	}
	for side := range 2 {
		for conn := range api.MaxConns {
			if e := w.End(side, conn); e != (api.End{}) {
				t.Fatal(e)
			}
		}
		b := w.Box(side)
		if me, you, epoch, up := b.Ends(); me != 1 || you != 0 || epoch != 0 || up {
			t.Fatal(me, you, epoch, up)
		}
		if len(b.Flows())+len(b.Chunks()) != 0 || b.Count() != (api.Count{}) || w.Box(side) != b {
			t.Fatalf("box %d is not new", side)
		}
	}
	if w.Box(left) == w.Box(right) {
		t.Fatal("one box for both sides")
	}
}

func TestP15_1NoSuch(t *testing.T) {
	w := plays(t, 0)
	w.do(dial(0))
	w.do(dial(11))
	for _, n := range []int{-1, 2, 3, math.MinInt, math.MaxInt} {
		if w.Box(n) != nil || w.End(n, 0) != (api.End{}) {
			t.Fatalf("there is a side %d", n)
		}
	}
	for _, n := range []int{-1, 1, 12, math.MinInt, math.MaxInt} {
		if w.End(left, n) != (api.End{}) || w.End(right, n) != (api.End{}) {
			t.Fatalf("there is a connection %d", n)
		}
	}
	for _, n := range []int{-1, 0, 3, math.MinInt, math.MaxInt} {
		if to, b, e := w.Peek(n); to != 0 || len(b) != 0 || e != api.ErrStep {
			t.Fatal(to, b, e)
		}
	}
	if e := w.End(left, 11); e.State != api.SynSent {
		t.Fatal(e)
	}
}

func TestP15_1NotMade(t *testing.T) {
	for _, w := range []*world.World{nil, {}} {
		for kind := range 20 {
			if e := w.Step(api.Step{Kind: kind, N: 80}); e != api.ErrNil {
				t.Fatal(kind, e)
			}
		}
		if to, b, e := w.Peek(1); to != 0 || len(b) != 0 || e != api.ErrNil {
			t.Fatal(to, b, e)
		}
		if len(w.Waiting()) != 0 || len(w.Streams()) != 0 || w.Box(0) != nil || w.Box(1) != nil || w.End(0, 0) != (api.End{}) {
			t.Fatal("there is something")
		}
	}
}

func TestP15_1Streams(t *testing.T) {
	w := up(t, 0)
	for _, conn := range []int{5, 0, 3} {
		w.open(conn)
	}
	var names [][2]int
	for _, x := range w.Streams() {
		names = append(names, [2]int{x.Conn, x.Side})
	}
	if want := [][2]int{{0, 0}, {0, 1}, {3, 0}, {3, 1}, {5, 0}, {5, 1}, {11, 0}, {11, 1}}; !slices.Equal(names, want) {
		t.Fatal(names)
	}
	is := func(side int, wrote string, shut bool, got string, fin, broken bool) {
		t.Helper()
		x := w.stream(side, 3)
		if string(x.Wrote) != wrote || x.Shut != shut || string(x.Got) != got || x.Fin != fin || x.Broken != broken {
			t.Fatalf("%+v", x)
		}
	}
	is(left, "", false, "", false, false)
	w.do(write(left, 3, []byte("abc")))
	w.do(write(right, 3, []byte("xy")))
	is(left, "abc", false, "", false, false)
	w.do(shut(left, 3))
	is(left, "abc", true, "", false, false)
	for range 10 {
		w.do(tick())
		w.carry()
	}
	if e := w.End(right, 3); !e.Fin || e.Ready != 3 {
		t.Fatal(e)
	}
	is(left, "abc", true, "", false, false)
	w.do(read(right, 3, 2))
	is(left, "abc", true, "ab", false, false)
	w.do(read(right, 3, 1))
	is(left, "abc", true, "abc", true, false)
	is(right, "xy", false, "", false, false)
	w.do(read(left, 3, 9))
	is(right, "xy", false, "xy", false, false)
	w.do(abort(right, 3))
	is(left, "abc", true, "abc", false, true)
	is(right, "xy", false, "xy", false, false)
	w.carry()
	is(right, "xy", false, "xy", false, true)
}

// A connection that the left host did not ask for has no streams, though the right host may have an end of it.
func TestP15_1NotAsked(t *testing.T) {
	w := plays(t, 0)
	w.do(dial(1))
	w.Box(right).Wan(bytesOf(t, packet.Put, question(api.Left, 1000, api.Right, api.Served)))
	w.do(tick())
	w.waits(1, 2)
	w.do(take(2))
	if e := w.End(right, 0); e.State != api.SynRcvd || w.End(left, 0) != (api.End{}) {
		t.Fatal(e)
	}
	if l := w.Streams(); len(l) != 2 || l[0].Conn != 1 || l[1].Conn != 1 {
		t.Fatal(l)
	}
	w.do(dial(0))
	if l := w.Streams(); len(l) != 4 || l[0].Conn != 0 {
		t.Fatal(l)
	}
}

// Nothing that is handed in is kept, and nothing that was told is shared.
func TestP15_1Memory(t *testing.T) {
	w := up(t, 0)
	w.open(0)
	data := bytes.Repeat([]byte("abcdefgh"), 20)
	for _, s := range []api.Step{write(left, 0, data[:100]), forge(left, data[:50]), write(left, 0, data[100:])} {
		before := bytes.Clone(data)
		w.do(s)
		if !bytes.Equal(data, before) {
			t.Fatal("what was handed in is changed")
		}
	}
	w.do(forge(right, data))
	for i := range data {
		data[i] = 'x'
	}
	w.calm(5)
	w.do(tick())
	w.do(write(left, 0, []byte("and more")))
	w.do(double(w.Waiting()[0]))
	before := w.all()
	spill := func(b []byte) {
		for i := range b[:cap(b)] {
			b[:cap(b)][i]++
		}
	}
	for _, id := range w.Waiting() {
		_, b, _ := w.Peek(id)
		spill(b)
	}
	for _, x := range w.Streams() {
		spill(x.Wrote)
		spill(x.Got)
	}
	l := w.Waiting()
	for i := range l {
		l[i]++
	}
	if now := w.all(); now != before {
		t.Fatalf("%s\n%s", before, now)
	}
	w.calm(9)
	w.whole(left, 0)
	if x := w.stream(left, 0); !bytes.Equal(x.Got, append(bytes.Repeat([]byte("abcdefgh"), 20), "and more"...)) {
		t.Fatalf("%q", x.Got)
	}
}

// Of what was doubled, one may be spoilt without the other.
func TestP15_2Apart(t *testing.T) {
	w := plays(t, 0)
	w.do(dial(0))
	w.do(double(1))
	w.do(spoil(1, 3, 1))
	_, spoilt, _ := w.Peek(1)
	_, other := w.peek(2)
	if bytes.Equal(spoilt[:len(other)], other) {
		t.Fatal("it is not spoilt")
	}
	w.do(spoil(2, 3, 1))
	_, b, _ := w.Peek(2)
	if !bytes.Equal(b, spoilt) {
		t.Fatalf("% x, % x", b, spoilt)
	}
}

func TestP15_2NoKind(t *testing.T) {
	w := up(t, 0)
	w.do(dial(0))
	for _, kind := range []int{0, -1, 15, 16, 100, math.MinInt, math.MaxInt} {
		w.refused(api.Step{Kind: kind, N: w.Waiting()[0], Data: []byte("x")}, api.ErrStep)
	}
}

func TestP15_2Dial(t *testing.T) {
	for _, iss := range []uint32{0, 1, math.MaxUint32 - 5} {
		w := plays(t, iss)
		for i, conn := range []int{11, 0, 7} {
			w.do(api.Step{Kind: api.SDial, Conn: conn, N: 1 + 32767*i, Data: []byte("x"), Place: 3})
			want := api.Packet{Src: api.Left, Sport: 1000 + conn, Dst: api.Right, Dport: 1 + 32767*i, Seq: iss + 1<<30 + uint32(conn)<<16, Flags: api.SYN, Window: api.Buffer}
			if _, b := w.peek(1 + i); !bytes.Equal(b, bytesOf(t, packet.Put, want)) || w.packet(1+i, toBoxL).Origin != 0 {
				t.Fatalf("% x", b)
			}
			if w.End(left, conn).State != api.SynSent || w.End(right, conn).State != api.Closed {
				t.Fatal("no end")
			}
		}
		w.waits(1, 2, 3)
	}
}

func TestP15_2DialRefused(t *testing.T) {
	w := plays(t, 0)
	w.do(dial(3))
	for _, n := range []int{-1, 0, 65536, math.MinInt, math.MaxInt, 1<<32 + 80} {
		w.refused(api.Step{Kind: api.SDial, N: n}, api.ErrStep)
	}
	for _, n := range []int{-1, 12, math.MinInt, math.MaxInt} {
		w.refused(dial(n), api.ErrStep)
	}
	for _, n := range []int{-1, 1, 2, math.MinInt, math.MaxInt} {
		w.refused(api.Step{Kind: api.SDial, Side: n, N: 80}, api.ErrStep)
	}
	w.refused(dial(3), api.ErrStep)
	w.do(abort(left, 3))
	w.refused(dial(3), api.ErrStep)
	w.do(api.Step{Kind: api.SDial, N: 65535})
}

func TestP15_2EndRefused(t *testing.T) {
	w := up(t, 0)
	w.open(0)
	w.do(dial(1))
	for kind := api.SWrite; kind <= api.SAbort; kind++ {
		s := api.Step{Kind: kind, N: 5, Data: []byte("abc")}
		for _, n := range []int{-1, 2, math.MinInt, math.MaxInt} {
			s.Side = n
			w.refused(s, api.ErrStep)
		}
		for _, n := range []int{-1, 2, 12, math.MinInt, math.MaxInt} {
			s.Side, s.Conn = left, n
			w.refused(s, api.ErrStep)
			s.Side = right
			w.refused(s, api.ErrStep)
		}
		s.Side, s.Conn = right, 1
		w.refused(s, api.ErrStep)
	}
}

func TestP15_2Write(t *testing.T) {
	w := up(t, 0)
	w.open(0)
	x := text(1, 9000)
	w.do(write(left, 0, x))
	if y := w.stream(left, 0); !bytes.Equal(y.Wrote, x[:1024]) {
		t.Fatal(len(y.Wrote))
	}
	w.do(write(left, 0, x))
	w.do(write(left, 0, nil))
	if y := w.stream(left, 0); !bytes.Equal(y.Wrote, x[:1024]) {
		t.Fatal(len(y.Wrote))
	}
	for len(w.stream(left, 0).Wrote) < 8000 {
		w.do(write(left, 0, x[len(w.stream(left, 0).Wrote):8000]))
		w.calm(2)
	}
	w.calm(9)
	w.do(write(left, 0, x[8000:]))
	if y := w.stream(left, 0); !bytes.Equal(y.Wrote, x[:api.MaxWrite]) {
		t.Fatal(len(y.Wrote))
	}
	w.calm(9)
	w.do(write(left, 0, x))
	w.do(write(right, 0, x[:5]))
	w.calm(9)
	if y := w.stream(left, 0); !bytes.Equal(y.Got, x[:api.MaxWrite]) || len(y.Wrote) != api.MaxWrite {
		t.Fatal(len(y.Wrote), len(y.Got))
	}
	w.whole(right, 0)
	w.do(shut(right, 0))
	w.do(write(right, 0, x))
	if y := w.stream(right, 0); len(y.Wrote) != 5 || !y.Shut {
		t.Fatal(y)
	}
}

func TestP15_2Read(t *testing.T) {
	w := up(t, 0)
	w.open(0)
	w.do(write(left, 0, []byte("abcdef")))
	for range 9 {
		w.do(tick())
		w.carry()
	}
	for _, c := range []struct {
		n   int
		got string
	}{{0, ""}, {-1, ""}, {math.MinInt, ""}, {1, "a"}, {3, "abcd"}, {math.MaxInt, "abcdef"}, {9, "abcdef"}} {
		w.do(read(right, 0, c.n))
		if x := w.stream(left, 0); string(x.Got) != c.got || w.End(right, 0).Got != len(c.got) {
			t.Fatalf("%d: %q", c.n, x.Got)
		}
	}
}

func TestP15_2CloseAbort(t *testing.T) {
	w := up(t, 0)
	w.open(0)
	w.open(1)
	w.do(shut(right, 0))
	if !w.End(right, 0).Shut || w.End(left, 0).Shut || w.End(right, 1).Shut {
		t.Fatal("another one was closed")
	}
	w.calm(3)
	if x := w.stream(right, 0); !x.Fin || !x.Shut {
		t.Fatal(x)
	}
	w.do(abort(left, 1))
	if w.End(left, 1).State != api.Reset || w.End(left, 0).State == api.Reset || w.End(right, 1).State == api.Reset {
		t.Fatal("another one was broken")
	}
	p := w.packet(w.Waiting()[0], toBoxL)
	if p.Flags != api.RST|api.ACK || p.Sport != 1001 {
		t.Fatal(p)
	}
	w.calm(3)
	if x := w.stream(left, 1); !x.Broken {
		t.Fatal(x)
	}
	w.do(shut(left, 1))
	w.do(abort(left, 1))
	w.waits(slices.Clone(w.Waiting())...)
}

// A tick is one of all endpoints and of both boxes.
func TestP15_2Tick(t *testing.T) {
	w := plays(t, 0)
	w.do(dial(2))
	w.do(dial(1))
	w.do(take(1))
	w.do(take(3)) // the right box greets, and the right host has an end of connection 2
	w.do(take(4))
	w.do(take(5)) // the left box has a session
	for id := range 9 {
		w.try(lose(id))
	}
	n := w.Waiting()
	for range 3 {
		w.do(tick())
	}
	w.waits(n...)
	for _, id := range n {
		w.do(lose(id))
	}
	w.do(tick())
	l := w.Waiting()
	if len(l) != 3 {
		t.Fatal(l)
	}
	// By connection, the left host's ahead of the right host's.
	if p := w.packet(l[0], toBoxL); p.Sport != 1001 || p.Flags != api.SYN {
		t.Fatal(p)
	}
	if p := w.packet(l[1], toBoxL); p.Sport != 1002 || p.Flags != api.SYN {
		t.Fatal(p)
	}
	if p := w.packet(l[2], toBoxR); p.Dport != 1002 || p.Flags != api.SYN|api.ACK {
		t.Fatal(p)
	}
	for range 4 {
		w.do(tick())
	}
	l = w.Waiting()[6:]
	if f := w.frame(l[0], toBoxRWide); f.Kind != api.FHello || len(l) != 1 {
		t.Fatal(f, l)
	}
	w.do(take(l[0])) // the right box's session begins, too
	for range 8 {
		w.do(tick())
	}
	var from []int
	for _, id := range w.Waiting() {
		if to, b := w.peek(id); to == toBoxLWide || to == toBoxRWide {
			if f, e := tunnel.Get(b); e == api.OK && f.Kind == api.FHello {
				from = append(from, to)
			}
		}
	}
	if !slices.Equal(from, []int{toBoxLWide, toBoxRWide, toBoxLWide}) {
		t.Fatal(from)
	}
}

func TestP15_2NotOnItsWay(t *testing.T) {
	w := plays(t, 0)
	for conn := range 4 {
		w.do(dial(conn))
	}
	w.do(lose(1))
	w.do(take(2))
	for kind := api.STake; kind <= api.SSpoil; kind++ {
		for _, n := range []int{-1, 0, 1, 2, 6, math.MinInt, math.MaxInt} {
			w.refused(api.Step{Kind: kind, N: n, Mask: 1}, api.ErrStep)
		}
	}
	w.waits(3, 4, 5)
	w.do(api.Step{Kind: api.STake, N: 4, Side: -7, Conn: 99, Place: -1, Mask: 256, Data: []byte("x")})
	w.do(lose(3))
	w.waits(5, 6)
}

func TestP15_2Double(t *testing.T) {
	w := plays(t, 0)
	w.do(dial(0))
	w.do(dial(1))
	w.do(double(1))
	w.waits(1, 2, 3)
	to, a := w.peek(1)
	other, b := w.peek(3)
	if to != other || !bytes.Equal(a, b) {
		t.Fatal(to, other, a, b)
	}
	for n := 3; n < api.MaxBag; n++ {
		w.do(double(2))
	}
	w.refused(double(1), api.ErrFull)
	w.refused(double(513), api.ErrStep)
	w.do(take(1))
	w.do(lose(3))
	if l := w.Waiting(); len(l) != 511 || l[0] != 2 || l[509] != 512 || l[510] != 513 {
		t.Fatal(l)
	}
	w.do(double(513))
	w.refused(double(2), api.ErrFull)
}

// What finds no room is lost, and had its number.
func TestP15_2Full(t *testing.T) {
	w := plays(t, 0)
	w.do(dial(0))
	for n := 1; n < api.MaxBag-1; n++ {
		w.do(double(1))
	}
	w.do(dial(1)) // 512
	w.do(dial(2)) // 513
	w.do(forge(left, nil))
	if l := w.Waiting(); len(l) != 512 || l[511] != 512 {
		t.Fatal(l)
	}
	if w.End(left, 2).State != api.SynSent {
		t.Fatal("not dialled")
	}
	w.do(lose(1))
	w.do(dial(3))
	if l := w.Waiting(); len(l) != 512 || l[511] != 515 || w.packet(515, toBoxL).Sport != 1003 {
		t.Fatal(l)
	}
	w.do(take(2)) // what is taken leaves room for what comes of it
	if l := w.Waiting(); len(l) != 512 || l[511] != 516 {
		t.Fatal(l)
	}
	for range 4 { // the left host's three other questions are lost, and the fifth, too
		w.do(tick())
	}
	w.do(lose(3))
	w.do(double(4))
	if l := w.Waiting(); l[511] != 521 {
		t.Fatal(l)
	}
}

func TestP15_2Spoil(t *testing.T) {
	for _, c := range []struct{ place, mask, at int }{
		{0, 1, 0}, {25, 255, 25}, {26, 0x180, 0}, {1<<40 + 3, -1, (1<<40 + 3) % 26}, {math.MaxInt, 257, math.MaxInt % 26},
		{-1, math.MinInt + 2, int(uint64(math.MaxUint64) % 26)}, {math.MinInt, 16, int(uint64(1<<63) % 26)}, {-26, 3, int((uint64(math.MaxUint64) - 25) % 26)},
	} {
		w := plays(t, 0)
		w.do(dial(0))
		_, was, _ := w.Peek(1)
		for _, mask := range []int{0, 256, -256, 1 << 40, math.MinInt} {
			w.refused(spoil(1, c.place, mask), api.ErrStep)
		}
		w.do(spoil(1, c.place, c.mask))
		to, is, e := w.Peek(1)
		was[c.at] ^= byte(c.mask)
		if to != toBoxL || !bytes.Equal(is, was) || e != api.OK {
			t.Fatalf("%v: % x, not % x", c, is, was)
		}
		w.refused(spoil(1, 9, 1), api.ErrStep)
		w.refused(spoil(1, c.place, c.mask), api.ErrStep)
		w.do(double(1))
		w.refused(spoil(2, c.place, c.mask), api.ErrStep)
		w.do(take(1))
		w.do(take(2))
		w.waits()
		if c := w.Box(left).Count(); c.Passed != 0 {
			t.Fatal("it came")
		}
	}
}

func TestP15_2Forge(t *testing.T) {
	w := plays(t, 0)
	x := bytesOf(t, packet.Put, question(api.Left, 1000, api.Right, 80))
	for side := range 2 {
		w.refused(forge(side, x), api.ErrStep)
	}
	hello := bytesOf(t, tunnel.Put, api.Frame{Kind: api.FHello, From: 9, You: 77})
	for _, side := range []int{-1, 2, math.MinInt, math.MaxInt} {
		w.refused(forge(side, hello), api.ErrStep)
	}
	for i, b := range [][]byte{hello, nil, x[1:], append(bytes.Clone(x), make([]byte, 129)...), text(1, 70000), sums.Seal(x)} {
		for side, to := range []int{toBoxLWide, toBoxRWide} {
			w.do(forge(side, b))
			whom, is := w.peek(1 + 2*i + side)
			if whom != to || !bytes.Equal(is, b) {
				t.Fatal(whom, is)
			}
		}
	}
	w.do(take(1)) // each box answers to who does not know its number
	w.do(take(2))
	l := w.Waiting()
	if f := w.frame(l[len(l)-2], toBoxRWide); f.Kind != api.FHello || f.From != 1 || f.You != 9 {
		t.Fatal(f)
	}
	if f := w.frame(l[len(l)-1], toBoxLWide); f.Kind != api.FHello || f.From != 1 || f.You != 9 {
		t.Fatal(f)
	}
}

func TestP15_2Restart(t *testing.T) {
	for side := range 2 {
		w := up(t, 7)
		w.open(0)
		w.do(write(left, 0, text(1, 300)))
		w.calm(3)
		b, other := w.Box(side), w.Box(1-side)
		for boot := 1; boot <= api.MaxBoots; boot++ {
			w.do(restart(side))
			x := w.Box(side)
			if me, you, epoch, up := x.Ends(); me != boot<<20+1 || you != 0 || epoch != 0 || up {
				t.Fatal(boot, me, you, epoch, up)
			}
			if x == b || w.Box(1-side) != other || len(x.Chunks())+len(x.Flows()) != 0 {
				t.Fatal("it is the old one, or the other one is new")
			}
		}
		for range 2 {
			w.refused(restart(side), api.ErrStep)
		}
		w.do(restart(1 - side))
		for _, n := range []int{-1, 2, math.MinInt, math.MaxInt} {
			w.refused(restart(n), api.ErrStep)
		}
	}
}

// A box that begins anew has the world's first number, and its side.
func TestP15_2RestartNumbers(t *testing.T) {
	const iss = 1<<32 - 9
	for boots := range 3 {
		w := plays(t, iss)
		for range boots {
			w.do(restart(left))
			w.do(restart(right))
		}
		w.do(dial(11))
		w.calm(3)
		w.isUp()
		w.do(dial(0))
		w.do(take(w.Waiting()[0]))
		l := w.Waiting()
		if p := w.packet(l[0], toLeft); p.Seq != uint32(boots)<<24-9 {
			t.Fatal(p)
		}
		w.do(take(l[1]))
		l = w.Waiting()
		if p := w.packet(l[1], toRight); p.Seq != uint32(boots)<<24-9 || p.Sport != 2000+boots<<8 || p.Origin != 1000 {
			t.Fatal(p)
		}
	}
}

func TestP15_2Evict(t *testing.T) {
	w := up(t, 0)
	w.open(0)
	w.do(write(left, 0, text(1, 900)))
	w.calm(6)
	for side := range 2 {
		l := w.Box(side).Chunks()
		if len(l) < 3 {
			t.Fatal(l)
		}
		for _, n := range []int{-1, len(l), math.MinInt, math.MaxInt} {
			w.refused(evict(side, n), api.ErrChunk)
		}
		w.do(evict(side, 1))
		if is := w.Box(side).Chunks(); !slices.Equal(is, slices.Delete(slices.Clone(l), 1, 2)) {
			t.Fatal(is, l)
		}
	}
	for _, n := range []int{-1, 2, math.MinInt, math.MaxInt} {
		w.refused(evict(n, 0), api.ErrStep)
	}
}

func TestP15_2Probes(t *testing.T) {
	for _, c := range []struct {
		n    []int
		seen bool
	}{{nil, true}, {[]int{1}, false}, {[]int{1, 0}, true}, {[]int{1, 2}, true}, {[]int{1, -1}, true}, {[]int{0, 1, 1}, false}, {[]int{257}, true}} {
		w := plays(t, 0)
		w.do(dial(0))
		w.do(take(1))
		for _, n := range c.n {
			w.do(probes(n))
		}
		// They are taken off where it comes, not on its way.
		if p := w.packet(2, toBoxRWide); p.Probe != 1 {
			t.Fatal(p)
		}
		w.do(forge(right, []byte("no packet")))
		w.do(take(3))
		w.do(take(2))
		if p := w.packet(4, toRight); p.Probe != 0 || p.Flags != api.SYN || p.Sport != 1000 {
			t.Fatal(p)
		}
		if c.seen {
			w.waits(4, 5)
			w.frame(5, toBoxLWide)
		} else {
			w.waits(4)
		}
	}
}

// Taken off are probes alone, and where nothing else is there nothing is.
func TestP15_2ProbesAlone(t *testing.T) {
	w := up(t, 0)
	w.do(probes(1))
	for range 16 {
		w.do(tick())
	}
	n := 0
	for _, id := range w.Waiting() {
		if to, _ := w.peek(id); to == toBoxRWide {
			n++
		}
	}
	if n == 0 {
		t.Fatal("nothing goes over the wide side")
	}
	w.open(0)
	w.sends(left, 0, text(1, 3000))
	w.calm(9)
	w.whole(left, 0)
	if _, _, epoch, up := w.Box(right).Ends(); !up || epoch != 1 {
		t.Fatal(epoch)
	}
}

// To whom each thing goes that is put out, and in which order.
func TestP15_2Posted(t *testing.T) {
	w := up(t, 0)
	w.open(0)
	w.open(1)
	w.do(write(right, 1, []byte("b")))
	w.do(write(left, 1, []byte("d")))
	w.do(write(right, 0, []byte("a")))
	w.do(write(left, 0, []byte("c")))
	for _, id := range w.Waiting() {
		w.do(lose(id))
	}
	for range 3 {
		w.do(tick())
	}
	w.waits(slices.Clone(w.Waiting())...)
	var to []int
	var data string
	last := len(w.Waiting())
	w.do(tick())
	for _, id := range w.Waiting()[last:] {
		whom, b := w.peek(id)
		if p, e := packet.Get(b); e == api.OK {
			to = append(to, whom)
			data += string(p.Data)
		}
	}
	if !slices.Equal(to, []int{toBoxL, toBoxL, toBoxR, toBoxR}) || data != "cdab" {
		t.Fatal(to, data)
	}
}

// Both boxes put something out on both sides in one step: the left one's local side, its wide one, the right one's.
func TestP15_2PostedBoxes(t *testing.T) {
	w := up(t, 0)
	w.open(0)
	w.carry()
	for _, side := range []int{right, left} {
		b := w.Box(side)
		p := question(api.Right, api.Served, api.Left, 1005)
		p.Flags = api.ACK
		q := api.Packet{Src: api.Left, Sport: 1005, Dst: api.Right, Dport: 9, Flags: api.ACK}
		if side == left {
			b.Lan(bytesOf(t, packet.Put, q))
			b.Wan(bytesOf(t, packet.Put, p))
		} else {
			b.Lan(bytesOf(t, packet.Put, p))
			b.Wan(bytesOf(t, packet.Put, q))
		}
	}
	w.waits()
	w.do(probes(0))
	var to []int
	for _, id := range w.Waiting() {
		whom, _ := w.peek(id)
		to = append(to, whom)
	}
	if !slices.Equal(to, []int{toLeft, toBoxRWide, toRight, toBoxLWide}) {
		t.Fatal(to)
	}
}

// rightHost lets a packet come to the right host, of whichever box.
func (w *play) rightHost(p api.Packet) {
	w.Helper()
	w.Box(right).Wan(bytesOf(w.T, packet.Put, p))
	w.do(probes(0))
	l := w.Waiting()
	if w.packet(l[len(l)-1], toRight).Sport != p.Sport {
		w.Fatal(l)
	}
	w.do(take(l[len(l)-1]))
}

func TestP15_2Accept(t *testing.T) {
	for _, iss := range []uint32{0, 5, 1<<32 - 3} {
		w := plays(t, iss)
		for _, conn := range []int{0, 7, 11} {
			w.rightHost(question(api.Left, 1000+conn, api.Right, api.Served))
			l := w.Waiting()
			p := w.packet(l[len(l)-1], toBoxR)
			if w.End(right, conn).State != api.SynRcvd || p.Seq != iss+1<<31+uint32(conn)<<16 || p.Flags != api.SYN|api.ACK || p.Dst != api.Left || p.Dport != 1000+conn {
				t.Fatal(p)
			}
		}
		// Whoever is spoken to is no new connection.
		n := len(w.Waiting())
		w.rightHost(question(api.Left, 1007, api.Right, api.Served))
		l := w.Waiting()
		if p := w.packet(l[n], toBoxR); p.Flags != api.SYN|api.ACK {
			t.Fatal(p)
		}
	}
}

// What is no question for the right host is refused, and makes no end.
func TestP15_2Refused(t *testing.T) {
	for _, c := range []struct{ sport, dport, flags int }{
		{999, 80, api.SYN}, {1012, 80, api.SYN}, {1, 80, api.SYN}, {65535, 80, api.SYN}, {1000, 81, api.SYN}, {1000, 79, api.SYN},
		{1000, 80, api.SYN | api.ACK}, {1000, 80, api.ACK}, {1000, 80, 0}, {1000, 80, api.SYN | api.FIN}, {1000, 80, api.FIN | api.ACK},
	} {
		w := plays(t, 0)
		p := question(api.Left, c.sport, api.Right, c.dport)
		p.Flags, p.Seq, p.Ack = c.flags, 70, 90
		w.rightHost(p)
		want, _ := packet.Refuse(p)
		if _, b := w.peek(2); !bytes.Equal(b, bytesOf(t, packet.Put, want)) || w.packet(2, toBoxR).Flags != api.RST|api.ACK {
			t.Fatalf("%v: % x", c, b)
		}
		w.waits(2)
		for conn := range api.MaxConns {
			if w.End(right, conn) != (api.End{}) {
				t.Fatalf("%v: an end of %d", c, conn)
			}
		}
	}
	w := plays(t, 0)
	for _, flags := range []int{api.RST, api.RST | api.ACK, api.RST | api.SYN} {
		p := question(api.Left, 1000, api.Right, 80)
		p.Flags = flags
		w.rightHost(p)
		w.waits()
	}
}

// From the right box a connection is known by the port for which that speaks; and who speaks to whom, by both its host and its port.
func TestP15_2SpeaksTo(t *testing.T) {
	w := up(t, 0)
	w.do(dial(4))
	for n := 0; w.End(right, 4).State == api.Closed; n++ {
		w.do(take(w.Waiting()[0]))
		if n > 9 {
			t.Fatal("no end")
		}
	}
	w.carry()
	if e := w.End(right, 4); e.State != api.Established {
		t.Fatal(e)
	}
	// The host Left itself, of the port of the box's: refused, for that is another one.
	p := question(api.Left, 2000, api.Right, api.Served)
	p.Flags = api.ACK
	w.rightHost(p)
	l := w.Waiting()
	if q := w.packet(l[len(l)-1], toBoxR); q.Flags != api.RST|api.ACK || q.Dst != api.Left {
		t.Fatal(q)
	}
	// Another question for the connection, past the boxes: the right host has an end of it.
	w.carry()
	w.rightHost(question(api.Left, 1004, api.Right, api.Served))
	l = w.Waiting()
	if q := w.packet(l[len(l)-1], toBoxR); q.Flags != api.RST|api.ACK || q.Dport != 1004 {
		t.Fatal(q)
	}
	if e := w.End(right, 4); e.State != api.Established {
		t.Fatal(e)
	}
}

// The left host refuses what is of no connection that it has.
func TestP15_2LeftHost(t *testing.T) {
	w := plays(t, 0)
	w.do(dial(0))
	w.do(dial(1))
	for _, port := range []int{999, 1002, 1011, 1012, 1, 65535, 80} {
		p := api.Packet{Src: api.Right, Sport: 80, Dst: api.Left, Dport: port, Flags: api.ACK, Seq: 3, Ack: 8}
		w.Box(left).Wan(bytesOf(t, packet.Put, p))
		w.do(probes(0))
		l := w.Waiting()
		if q := w.packet(l[2], toLeft); q.Dport != port {
			t.Fatal(q)
		}
		w.do(take(l[2]))
		l = w.Waiting()
		want, _ := packet.Refuse(p)
		if _, b := w.peek(l[2]); !bytes.Equal(b, bytesOf(t, packet.Put, want)) {
			t.Fatalf("% x", b)
		}
		w.packet(l[2], toBoxL)
		w.do(lose(l[2]))
	}
	p := api.Packet{Src: api.Right, Sport: 80, Dst: api.Left, Dport: 1001, Flags: api.RST | api.ACK, Ack: 1<<30 + 1<<16 + 1}
	w.Box(left).Wan(bytesOf(t, packet.Put, p))
	w.do(probes(0))
	w.do(take(w.Waiting()[2]))
	if w.End(left, 0).State != api.SynSent || w.End(left, 1).State != api.Reset {
		t.Fatal(w.End(left, 0), w.End(left, 1))
	}
	w.waits(1, 2)
}

// What the chapter tells as its example.
func TestP15_2Example(t *testing.T) {
	w := plays(t, 0)
	w.do(dial(0))
	w.waits(1)
	w.packet(1, toBoxL)
	w.do(take(1))
	w.waits(2)
	if p := w.packet(2, toBoxRWide); p.Probe != 1 {
		t.Fatal(p)
	}
	w.do(take(2))
	w.waits(3, 4)
	w.packet(3, toRight)
	if f := w.frame(4, toBoxLWide); f.Kind != api.FHello {
		t.Fatal(f)
	}
}

// Two worlds that are driven in turns do what they do alone; and a script that is played again does the same.
func TestP15_2Again(t *testing.T) {
	alone := func(seed int) string {
		d := dice(seed)
		w := plays(t, 5)
		w.storm(&d, 1500, wild)
		return w.all()
	}
	one, other := alone(1), alone(2)
	d, e := dice(1), dice(2)
	v, w := plays(t, 5), plays(t, 5)
	for range 30 {
		v.storm(&d, 50, wild)
		w.storm(&e, 50, wild)
	}
	if v.all() != one || w.all() != other || one == other {
		t.Fatal("they know of one another")
	}
}

// Whatever a step says, it ends.
func TestP15_2AnyStep(t *testing.T) {
	d := dice(5)
	numbers := []int{-1, 0, 1, 2, 3, 11, 12, 80, 256, math.MinInt, math.MaxInt, 1 << 40}
	some := func() int { return numbers[d.below(len(numbers))] }
	w := plays(t, 1<<32-1)
	for n := range 20000 {
		s := api.Step{Kind: d.below(18) - 1, Conn: some(), Side: some(), N: some(), Place: some(), Mask: some(), Data: text(n, d.below(60))}
		if s.Kind == api.SForge || s.Kind == api.SAbort {
			s.Data = nil
		}
		if l := w.Waiting(); len(l) > 0 && d.below(2) == 0 {
			s.N = l[d.below(len(l))]
		}
		w.try(s)
	}
}

// Probes are taken off on the way to the right box alone.
func TestP15_2ProbesBack(t *testing.T) {
	w := plays(t, 0)
	w.do(probes(1))
	p := api.Packet{Src: api.Right, Sport: 80, Dst: api.Left, Dport: 1000, Flags: api.ACK, Probe: 9}
	w.Box(right).Lan(bytesOf(t, packet.Put, p))
	w.do(tick())
	if w.packet(1, toBoxLWide).Probe != 9 {
		t.Fatal("it has no probe")
	}
	w.do(take(1))
	if w.packet(2, toLeft).Probe != 9 {
		t.Fatal("it was taken off")
	}
}
