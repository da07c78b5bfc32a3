package tcp_test

import (
	"bytes"
	"math"
	"strings"
	"testing"

	"flume/api"
	"flume/packet"
	"flume/tcp"
)

const (
	syn = api.SYN
	ack = api.ACK
	fin = api.FIN
	rst = api.RST
	all = api.Buffer
)

// dice throws numbers that look like chance and are the same each time.
type dice uint64

func (d *dice) below(n int) int {
	*d = *d*6364136223846793005 + 1442695040888963407
	return int(*d >> 33 % dice(n))
}

func same(a, b api.Packet) bool {
	data := bytes.Equal(a.Data, b.Data)
	numbers := a.Seq == b.Seq && a.Ack == b.Ack && a.Flags == b.Flags && a.Window == b.Window
	names := a.Src == b.Src && a.Dst == b.Dst && a.Sport == b.Sport && a.Dport == b.Dport
	return data && numbers && names && a.Probe == b.Probe && a.Origin == b.Origin
}

// text is bytes of which no two near ones are alike.
func text(n int) string {
	b := make([]byte, n)
	for i := range b {
		b[i] = byte(i + i/251)
	}
	return string(b)
}

// line is an endpoint of Left's port 1000, which speaks to Right's port 80. All numbers in its calls are reckoned from the first byte of each direction on.
type line struct {
	*testing.T
	*tcp.Conn
	mine, yours uint32
}

// everywhere lets a test go through with first numbers about which going round may go wrong.
func everywhere(t *testing.T, test func(l *line)) {
	t.Helper()
	for _, n := range []struct{ mine, yours uint32 }{
		{8, 101}, {0, 0}, {1, math.MaxUint32}, {math.MaxUint32, 1}, {math.MaxUint32 - 9, math.MaxUint32 - 3}, {1<<31 - 5, 1<<31 + 2},
	} {
		test(&line{T: t, mine: n.mine, yours: n.yours})
	}
}

// p is a packet of the endpoint.
func (l *line) p(flags, number, acked, window int, data string) api.Packet {
	p := api.Packet{Src: api.Left, Sport: 1000, Dst: api.Right, Dport: 80, Seq: l.mine + uint32(number), Flags: flags, Window: window, Data: []byte(data)}
	if flags&ack != 0 {
		p.Ack = l.yours + uint32(acked)
	}
	return p
}

// yourP is a packet of the other one.
func (l *line) yourP(flags, number, acked, window int, data string) api.Packet {
	p := api.Packet{Src: api.Right, Sport: 80, Dst: api.Left, Dport: 1000, Seq: l.yours + uint32(number), Flags: flags, Window: window, Data: []byte(data)}
	if flags&ack != 0 {
		p.Ack = l.mine + uint32(acked)
	}
	return p
}

// comes lets a packet of the other one come.
func (l *line) comes(flags, number, acked, window int, data string) {
	l.Take(l.yourP(flags, number, acked, window, data))
}

// out asks for what was put out since it was asked last.
func (l *line) out(want ...api.Packet) {
	l.Helper()
	got := l.Conn.Out()
	if len(got) != len(want) {
		l.Fatalf("%d packets, not %d: %v", len(got), len(want), got)
	}
	for i, p := range got {
		if !same(p, want[i]) {
			l.Fatalf("packet %d: %v, not %v", i+1, p, want[i])
		}
	}
}

// is asks for a state.
func (l *line) is(state int) {
	l.Helper()
	if got := l.End().State; got != state {
		l.Fatalf("the state is %d, not %d", got, state)
	}
}

// end asks for all that can be told.
func (l *line) end(want api.End) {
	l.Helper()
	if got := l.End(); got != want {
		l.Fatalf("%+v, not %+v", got, want)
	}
}

// writes writes a text for which there is room.
func (l *line) writes(s string) {
	l.Helper()
	if n := l.Write([]byte(s)); n != len(s) {
		l.Fatalf("%d of %d bytes were written", n, len(s))
	}
}

// reads asks for what is read.
func (l *line) reads(n int, want string) {
	l.Helper()
	if got := l.Read(n); string(got) != want {
		l.Fatalf("%q was read, not %q", got, want)
	}
}

// passes lets ticks pass.
func (l *line) passes(ticks int) {
	for range ticks {
		l.Tick()
	}
}

// silent lets ticks pass in which nothing is put out.
func (l *line) silent(ticks int) {
	l.Helper()
	l.passes(ticks)
	l.out()
}

// dials is an endpoint that asked.
func (l *line) dials() {
	l.Helper()
	l.Conn = tcp.Dial(api.Left, 1000, api.Right, 80, 0, l.mine-1)
	l.out(l.p(syn, -1, 0, all, ""))
	l.is(api.SynSent)
}

// accepts is one that was asked.
func (l *line) accepts(window int) {
	l.Helper()
	l.Conn = tcp.Accept(l.yourP(syn, -1, 0, window, ""), l.mine-1)
	l.out(l.p(syn|ack, -1, 0, all, ""))
	l.is(api.SynRcvd)
}

// opens is one whose connection is open.
func (l *line) opens(window int) {
	l.Helper()
	l.dials()
	l.comes(syn|ack, -1, 0, window, "")
	l.out(l.p(ack, 0, 0, all, ""))
	l.is(api.Established)
}

// fills lets so many bytes come that may be read; they are acknowledged to the other one.
func (l *line) fills(n int) {
	l.Helper()
	s := text(n)
	for at := 0; at < n; at += api.MaxData {
		l.comes(ack, at, 0, 1000, s[at:min(n, at+api.MaxData)])
	}
	if got := l.End().Ready; got != n {
		l.Fatalf("%d bytes may be read, not %d", got, n)
	}
	l.Conn.Out()
}

func TestP13_1Dial(t *testing.T) {
	for _, x := range []struct {
		src, sport, dst, dport, origin int
		iss                            uint32
	}{
		{1, 1000, 2, 80, 0, 7},
		{4, 1, 2, 65535, 1, 0},
		{3, 65535, 1, 1, 65535, math.MaxUint32},
		{2, 9, 4, 9, 1000, 1 << 31},
	} {
		c := tcp.Dial(x.src, x.sport, x.dst, x.dport, x.origin, x.iss)
		l := &line{T: t, Conn: c}
		ask := api.Packet{Src: x.src, Sport: x.sport, Dst: x.dst, Dport: x.dport, Origin: x.origin, Seq: x.iss, Flags: syn, Window: 1024}
		l.out(ask)
		l.out()
		l.end(api.End{State: api.SynSent})
		l.passes(4)
		l.out(ask)
		// Behind the question no origin is told.
		l.Take(api.Packet{Src: x.dst, Sport: x.dport, Dst: x.src, Dport: x.sport, Seq: 5, Ack: x.iss + 1, Flags: syn | ack})
		l.out(api.Packet{Src: x.src, Sport: x.sport, Dst: x.dst, Dport: x.dport, Seq: x.iss + 1, Ack: 6, Flags: ack, Window: 1024})
	}
}

func TestP13_1DialRefused(t *testing.T) {
	far := []int{math.MinInt, -1, 65536, math.MaxInt, 1<<32 + 1}
	for place := range 5 {
		wrong := far
		if place < 4 {
			wrong = append([]int{0}, far...)
		}
		if place == 0 || place == 2 {
			wrong = append([]int{5, 6}, wrong...)
		}
		for _, n := range wrong {
			x := [5]int{1, 1000, 2, 80, 0}
			x[place] = n
			if c := tcp.Dial(x[0], x[1], x[2], x[3], x[4], 7); c != nil {
				t.Errorf("Dial(%v): %v", x, c.End())
			}
		}
	}
	if c := tcp.Dial(1, 1000, 1, 80, 0, 7); c != nil {
		t.Errorf("Dial to itself: %v", c.End())
	}
}

func TestP13_1Accept(t *testing.T) {
	everywhere(t, func(l *line) {
		l.accepts(5)
		l.end(api.End{State: api.SynRcvd})
		l.out()
	})
	// Its options tell nothing, and its bytes are not taken.
	p := api.Packet{Src: 4, Sport: 3000, Dst: 2, Dport: 80, Seq: 9, Ack: 77, Flags: syn, Window: 9, Probe: 5, Origin: 1003, Data: []byte("abc")}
	l := &line{T: t, Conn: tcp.Accept(p, math.MaxUint32)}
	answer := api.Packet{Src: 2, Sport: 80, Dst: 4, Dport: 3000, Seq: math.MaxUint32, Ack: 10, Flags: syn | ack, Window: 1024}
	l.out(answer)
	l.end(api.End{State: api.SynRcvd})
	l.passes(4)
	l.out(answer)
	l.writes("0123456789")
	l.Take(api.Packet{Src: 4, Sport: 3000, Dst: 2, Dport: 80, Seq: 10, Flags: ack, Window: 4})
	l.out(api.Packet{Src: 2, Sport: 80, Dst: 4, Dport: 3000, Ack: 10, Flags: ack, Window: 1024, Data: []byte("0123")})
}

// What the other one takes is known from its question on.
func TestP13_1AcceptWindow(t *testing.T) {
	everywhere(t, func(l *line) {
		l.accepts(5)
		l.writes("0123456789")
		l.out()
		l.comes(ack, 5000, 0, 9, "") // it does not fit, but shows that the answer came
		l.out(l.p(ack, 0, 0, all, ""))
		l.is(api.Established)
		l.writes("")
		l.out(l.p(ack, 0, 0, all, "01234"))
	})
}

func TestP13_1AcceptRefused(t *testing.T) {
	good := api.Packet{Src: 1, Sport: 1000, Dst: 2, Dport: 80, Seq: 9, Flags: syn, Window: 9}
	refused := func(turn func(p *api.Packet)) {
		t.Helper()
		p := good
		turn(&p)
		if c := tcp.Accept(p, 100); c != nil {
			t.Errorf("Accept(%v): %v", p, c.End())
		}
	}
	for flags := -2; flags < 40; flags++ {
		if flags != syn {
			refused(func(p *api.Packet) { p.Flags = flags })
		}
	}
	for _, n := range []int{math.MinInt, -1, 65536, math.MaxInt} {
		refused(func(p *api.Packet) { p.Src = n })
		refused(func(p *api.Packet) { p.Dst = n })
		refused(func(p *api.Packet) { p.Sport = n })
		refused(func(p *api.Packet) { p.Dport = n })
		refused(func(p *api.Packet) { p.Window = n })
		refused(func(p *api.Packet) { p.Origin = n })
		refused(func(p *api.Packet) { p.Flags = n })
	}
	refused(func(p *api.Packet) { p.Src = 2 })
	refused(func(p *api.Packet) { p.Sport = 0 })
	refused(func(p *api.Packet) { p.Probe = 1<<40 + 1 })
	refused(func(p *api.Packet) { p.Data = make([]byte, 129) })
	refused(func(p *api.Packet) { *p = api.Packet{} })
}

func TestP13_1Example(t *testing.T) {
	l := &line{T: t, Conn: tcp.Dial(1, 1000, 2, 80, 0, 7)}
	ask := api.Packet{Src: 1, Sport: 1000, Dst: 2, Dport: 80, Seq: 7, Flags: syn, Window: 1024}
	l.out(ask)
	r := &line{T: t, Conn: tcp.Accept(ask, 100)}
	answer := api.Packet{Src: 2, Sport: 80, Dst: 1, Dport: 1000, Seq: 100, Ack: 8, Flags: syn | ack, Window: 1024}
	r.out(answer)
	l.Take(answer)
	l.is(api.Established)
	last := api.Packet{Src: 1, Sport: 1000, Dst: 2, Dport: 80, Seq: 8, Ack: 101, Flags: ack, Window: 1024}
	l.out(last)
	r.Take(last)
	r.is(api.Established)
	r.out()
}

// never is packets that may not be, near to one that an open endpoint would answer.
func never(p api.Packet) (bad []api.Packet) {
	add := func(turn func(p *api.Packet)) {
		q := p
		turn(&q)
		bad = append(bad, q)
	}
	for _, n := range []int{math.MinInt, -1, 65536, math.MaxInt} {
		add(func(p *api.Packet) { p.Src = n })
		add(func(p *api.Packet) { p.Dst = n })
		add(func(p *api.Packet) { p.Sport = n })
		add(func(p *api.Packet) { p.Dport = n })
		add(func(p *api.Packet) { p.Window = n })
		add(func(p *api.Packet) { p.Origin = n })
	}
	add(func(p *api.Packet) { p.Flags |= 16 })
	add(func(p *api.Packet) { p.Flags |= math.MinInt })
	add(func(p *api.Packet) { p.Src = p.Dst })
	add(func(p *api.Packet) { p.Probe = -1 })
	add(func(p *api.Packet) { p.Data = make([]byte, 129) })
	return bad
}

func TestP13_2MayNotBe(t *testing.T) {
	l := &line{T: t, mine: 8, yours: 101}
	for _, begin := range []func(){
		l.dials,
		func() { l.accepts(9) },
		func() { l.opens(9) },
		func() { l.opens(9); l.comes(rst, 0, 0, 0, "") },
	} {
		begin()
		before := l.End()
		for _, flags := range []int{syn, syn | ack, ack, rst | ack, fin | ack} {
			for _, p := range never(l.yourP(flags, 0, 0, 9, "x")) {
				l.Take(p)
			}
		}
		l.out()
		l.end(before)
	}
	// It is no sign of life either.
	l.opens(9)
	for range 128 {
		l.is(api.Established)
		l.Take(never(l.yourP(ack, 0, 0, 9, "x"))[0])
		l.Tick()
	}
	l.is(api.Reset)
}

func TestP13_2Reset(t *testing.T) {
	everywhere(t, func(l *line) {
		l.opens(9)
		l.comes(rst, 0, 0, 0, "")
		l.out()
		l.is(api.Reset)
		p := l.yourP(ack, 0, 0, 9, "abc")
		l.Take(p)
		refusal, _ := packet.Refuse(p)
		l.out(refusal)
		l.comes(syn, -1, 0, 9, "")
		l.out(api.Packet{Src: 1, Sport: 1000, Dst: 2, Dport: 80, Ack: l.yours, Flags: rst | ack})
		for _, flags := range []int{rst, rst | ack, rst | syn} {
			l.comes(flags, 0, 0, 9, "")
		}
		l.out()
		// Whoever it comes from: it is refused as it is.
		l.Take(api.Packet{Src: 4, Sport: 5, Dst: 3, Dport: 6, Seq: 9, Flags: fin})
		l.out(api.Packet{Src: 3, Sport: 6, Dst: 4, Dport: 5, Ack: 10, Flags: rst | ack})
		l.is(api.Reset)
	})
}

func TestP13_2Asks(t *testing.T) {
	everywhere(t, func(l *line) {
		for flags := range 16 {
			for _, acked := range []int{-2, -1, 0, 1, 1 << 30} {
				l.dials()
				p := l.yourP(flags, 40, acked, 9, "abc")
				l.Take(p)
				refusal, ok := packet.Refuse(p)
				switch {
				case flags&ack != 0 && acked != 0 && ok:
					l.out(refusal)
					l.is(api.SynSent)
				case flags&ack == 0, acked != 0:
					l.out()
					l.is(api.SynSent)
				case flags&rst != 0:
					l.out()
					l.is(api.Reset)
				case flags&syn != 0: // its bytes, and its end, are not taken
					l.out(l.p(ack, 0, 41, all, ""))
					l.end(api.End{State: api.Established})
				default:
					l.out()
					l.is(api.SynSent)
				}
			}
		}
	})
}

// What was written before goes out when the connection is open.
func TestP13_2AsksAndPushes(t *testing.T) {
	everywhere(t, func(l *line) {
		s := text(300)
		l.dials()
		l.writes(s)
		l.Close()
		l.out()
		l.comes(syn|ack, -1, 0, 1000, "")
		l.out(l.p(ack, 0, 0, all, ""), l.p(ack, 0, 0, all, s[:128]), l.p(ack, 128, 0, all, s[128:256]), l.p(ack, 256, 0, all, s[256:]), l.p(fin|ack, 300, 0, all, ""))
		l.dials()
		l.writes(s)
		l.Close()
		l.comes(syn|ack, -1, 0, 130, "")
		l.out(l.p(ack, 0, 0, all, ""), l.p(ack, 0, 0, all, s[:128]), l.p(ack, 128, 0, all, s[128:130]))
	})
}

// The timer and the tries begin anew when the connection is open.
func TestP13_2AsksInTime(t *testing.T) {
	everywhere(t, func(l *line) {
		l.dials()
		l.writes("abc")
		l.silent(3)
		l.comes(syn|ack, -1, 0, 9, "")
		l.out(l.p(ack, 0, 0, all, ""), l.p(ack, 0, 0, all, "abc"))
		l.silent(3)
		l.Tick()
		l.out(l.p(ack, 0, 0, all, "abc"))
		for _, asks := range []bool{true, false} {
			if asks {
				l.dials()
			} else {
				l.accepts(9)
			}
			l.writes("abc")
			l.passes(120)
			if asks {
				l.comes(syn|ack, -1, 0, 9, "")
			} else { // it does not fit, so it tells nothing but that the answer came
				l.comes(ack, 5000, 0, 9, "")
			}
			l.passes(123)
			l.is(api.Established)
			l.Tick()
			l.is(api.Reset)
		}
	})
}

func TestP13_2Rst(t *testing.T) {
	everywhere(t, func(l *line) {
		for _, x := range []struct {
			ready, number int
			reset         bool
		}{
			{0, -1, false}, {0, 0, true}, {0, 1, true}, {0, 1026, true}, {0, 1027, false}, {0, 1 << 31, false},
			{1000, 999, false}, {1000, 1000, true}, {1000, 1026, true}, {1000, 1027, false},
			{1024, 1024, true}, {1024, 1026, true}, {1024, 1027, false},
		} {
			for _, flags := range []int{rst, rst | ack, rst | syn, rst | fin | ack, 15} {
				l.opens(9)
				l.fills(x.ready)
				l.comes(flags, x.number, 0, 9, "abc")
				l.out()
				if x.reset {
					l.end(api.End{State: api.Reset})
				} else {
					l.end(api.End{State: api.Established, Ready: x.ready})
				}
			}
		}
		l.accepts(9)
		l.comes(rst, -1, 0, 9, "")
		l.comes(rst, 1027, 0, 9, "")
		l.out()
		l.is(api.SynRcvd)
		l.comes(rst, 1026, 0, 9, "")
		l.out()
		l.is(api.Reset)
	})
}

func TestP13_2ResetTakesAway(t *testing.T) {
	everywhere(t, func(l *line) {
		l.opens(4)
		l.writes("abcdef")
		l.comes(fin|ack, 0, 2, 0, "xyz")
		l.reads(1, "x")
		l.Conn.Out()
		l.end(api.End{State: api.Established, Sent: 2, Queued: 4, Got: 1, Ready: 2, Fin: true})
		l.comes(rst, 4, 0, 0, "")
		l.end(api.End{State: api.Reset, Sent: 2, Got: 1, Fin: true})
		l.reads(9, "")
		l.silent(200)
	})
}

func TestP13_2Syn(t *testing.T) {
	everywhere(t, func(l *line) {
		l.accepts(9)
		for _, flags := range []int{syn, syn | fin} {
			l.comes(flags, -1, 0, 9, "")
			l.out(l.p(syn|ack, -1, 0, all, ""))
			for _, number := range []int{-2, 0, 1} {
				l.comes(flags, number, 0, 9, "")
				l.out(l.p(ack, 0, 0, all, ""))
			}
			l.comes(flags|ack, -1, 0, 9, "")
			l.out(l.p(ack, 0, 0, all, ""))
		}
		l.end(api.End{State: api.SynRcvd})
		l.opens(9)
		l.writes("abc")
		l.out(l.p(ack, 0, 0, all, "abc"))
		for _, flags := range []int{syn, syn | ack, syn | fin, syn | ack | fin} {
			for _, number := range []int{-1, 0} {
				l.comes(flags, number, 3, 9, "x")
				l.out(l.p(ack, 3, 0, all, ""))
			}
		}
		l.end(api.End{State: api.Established, Queued: 3})
	})
}

func TestP13_2NoAck(t *testing.T) {
	everywhere(t, func(l *line) {
		for _, begin := range []func(){func() { l.accepts(9) }, func() { l.opens(9) }} {
			begin()
			before := l.End()
			l.comes(0, 0, 0, 9, "abc")
			l.comes(fin, 0, 0, 9, "abc")
			l.comes(fin, 0, 0, 9, "")
			l.out()
			l.end(before)
		}
	})
}

func TestP13_2WasAsked(t *testing.T) {
	everywhere(t, func(l *line) {
		l.accepts(9)
		for _, acked := range []int{-2, -1, 1, 1 << 31} {
			p := l.yourP(ack, 0, acked, 9, "abc")
			l.Take(p)
			refusal, _ := packet.Refuse(p)
			l.out(refusal)
			l.end(api.End{State: api.SynRcvd})
		}
		l.writes("uvwxyz")
		l.Close()
		l.out()
		l.comes(ack, 0, 0, 4, "abc")
		l.out(l.p(ack, 0, 3, all-3, ""), l.p(ack, 0, 3, all-3, "uvwx"))
		l.end(api.End{State: api.Established, Queued: 6, Ready: 3, Shut: true})
		l.reads(9, "abc")
	})
}

func TestP13_2Fits(t *testing.T) {
	everywhere(t, func(l *line) {
		for _, x := range []struct {
			ready, number int
			flags         int
			data          string
			fits          bool
		}{
			{0, -1, ack, "", false}, {0, 0, ack, "", true}, {0, 1, ack, "", true},
			{0, 1024, ack, "", true}, {0, 1026, ack, "", true}, {0, 1027, ack, "", false}, {0, 1 << 31, ack, "", false},
			{0, -1, ack, "a", false}, {0, -1, ack, "ab", true}, {0, -2, ack, "ab", false}, {0, -2, ack, "abc", true},
			{0, 0, ack, "a", true}, {0, 1023, ack, "ab", true}, {0, 1024, ack, "a", false}, {0, 1025, ack, "a", false},
			{0, -1, fin | ack, "", false}, {0, -1, fin | ack, "a", true}, {0, 0, fin | ack, "", true}, {0, 1023, fin | ack, "", true}, {0, 1024, fin | ack, "", false},
			{1024, 1024, ack, "a", true}, {1024, 1023, ack, "ab", false}, {1024, 1025, ack, "a", false}, {1024, 1023, ack, "", false},
			{1024, 1024, ack, "", true}, {1024, 1026, ack, "", true}, {1024, 1027, ack, "", false}, {1024, 1025, fin | ack, "", false},
			{1000, 1023, ack, "a", true}, {1000, 1024, ack, "a", false}, {1000, 999, ack, "a", false}, {1000, 999, ack, "ab", true},
		} {
			l.opens(9)
			l.fills(x.ready)
			l.writes("mno")
			l.Conn.Out()
			l.comes(x.flags, x.number, 2, 9, x.data)
			if l.End().Sent == 2 != x.fits {
				l.Fatalf("%+v", x)
			}
			told := l.Conn.Out()
			if quiet := x.fits && x.data == "" && x.flags == ack; quiet != (len(told) == 0) || len(told) > 1 {
				l.Fatalf("%+v: %v", x, told)
			}
			end := l.End()
			number, window := x.ready+end.Ready-x.ready, all-end.Ready
			if end.Fin {
				number++
			}
			if len(told) == 1 && !same(told[0], l.p(ack, 3, number, window, "")) {
				l.Fatalf("%+v: %v", x, told)
			}
		}
	})
}

// What was never sent can't be acknowledged.
func TestP13_2AckBehindTop(t *testing.T) {
	everywhere(t, func(l *line) {
		l.opens(9)
		l.comes(ack, 0, 1, 9, "abc")
		l.out(l.p(ack, 0, 0, all, ""))
		l.writes("0123456789")
		l.out(l.p(ack, 0, 0, all, "012345678"))
		l.comes(fin|ack, 0, 10, 9, "abc")
		l.out(l.p(ack, 9, 0, all, ""))
		l.end(api.End{State: api.Established, Queued: 10})
		l.comes(ack, 0, 9, 0, "abc")
		l.out(l.p(ack, 9, 3, all-3, ""))
		l.end(api.End{State: api.Established, Sent: 9, Queued: 1, Ready: 3})
	})
}

func TestP13_2Ack(t *testing.T) {
	everywhere(t, func(l *line) {
		l.opens(10)
		l.writes("0123456789abcdefghij")
		l.out(l.p(ack, 0, 0, all, "0123456789"))
		l.comes(ack, 0, 4, 8, "")
		l.out(l.p(ack, 10, 0, all, "ab"))
		l.end(api.End{State: api.Established, Sent: 4, Queued: 16})
		// An old one tells no window, but its bytes are taken.
		l.comes(ack, 0, 3, 100, "x")
		l.out(l.p(ack, 12, 1, all-1, ""))
		l.end(api.End{State: api.Established, Sent: 4, Queued: 16, Ready: 1})
		// One that is not new does.
		l.comes(ack, 1, 4, 9, "")
		l.out(l.p(ack, 12, 1, all-1, "c"))
		l.comes(ack, 1, 4, 0, "")
		l.out()
		l.comes(ack, 1, 13, 0, "")
		l.out()
		l.end(api.End{State: api.Established, Sent: 13, Queued: 7, Ready: 1})
		l.comes(ack, 1, 13, 65535, "")
		l.out(l.p(ack, 13, 1, all-1, "defghij"))
	})
}

// What is sent again stands behind what was acknowledged meanwhile.
func TestP13_2AckWhileSentAgain(t *testing.T) {
	everywhere(t, func(l *line) {
		s := text(400)
		l.opens(300)
		l.writes(s[:300])
		l.Conn.Out()
		l.comes(ack, 0, 0, 100, "")
		l.passes(4)
		l.out(l.p(ack, 0, 0, all, s[:100]))
		l.comes(ack, 0, 250, 20, "") // next stands at 100
		l.out(l.p(ack, 250, 0, all, s[250:270]))
		l.comes(ack, 0, 300, 50, "")
		l.out()
		l.writes(s[300:])
		l.out(l.p(ack, 300, 0, all, s[300:350]))
		l.end(api.End{State: api.Established, Sent: 300, Queued: 100})
	})
}

// The tries are 0 behind whatever acknowledges not less than was, the timer behind what acknowledges more.
func TestP13_2AckInTime(t *testing.T) {
	everywhere(t, func(l *line) {
		l.opens(9)
		l.writes("abcd")
		l.Conn.Out()
		l.silent(3)
		l.comes(ack, 0, 0, 9, "")
		l.Tick()
		l.out(l.p(ack, 0, 0, all, "abcd"))
		l.silent(3)
		l.comes(ack, 0, 1, 9, "")
		l.silent(3)
		l.Tick()
		l.out(l.p(ack, 1, 0, all, "bcd"))
		l.passes(119)
		l.comes(ack, 0, 1, 9, "") // as much as was
		l.passes(120)
		l.is(api.Established)
		l.Tick()
		l.is(api.Reset)

		l.opens(9)
		l.writes("abcd")
		l.comes(ack, 0, 1, 9, "")
		l.passes(120)
		l.comes(ack, 0, 0, 9, "") // less than was
		l.passes(3)
		l.is(api.Established)
		l.Tick()
		l.is(api.Reset)
	})
}

// The end is acknowledged when more is than the bytes.
func TestP13_2AckOfTheEnd(t *testing.T) {
	everywhere(t, func(l *line) {
		l.opens(9)
		l.writes("abc")
		l.Close()
		l.out(l.p(ack, 0, 0, all, "abc"), l.p(fin|ack, 3, 0, all, ""))
		l.comes(ack, 0, 3, 9, "")
		l.out()
		l.passes(4)
		l.out(l.p(fin|ack, 3, 0, all, ""))
		l.comes(ack, 0, 4, 9, "")
		l.end(api.End{State: api.Established, Sent: 3, Shut: true})
		l.silent(15)
		l.comes(ack, 0, 5, 9, "") // never sent
		l.out(l.p(ack, 4, 0, all, ""))
		l.comes(ack, 0, 4, 9, "abc")
		l.out(l.p(ack, 4, 3, all-3, ""))
		l.opens(9)
		l.writes("abc")
		l.Close()
		l.comes(ack, 0, 4, 9, "")
		l.end(api.End{State: api.Established, Sent: 3, Shut: true})
		l.Conn.Out()
		l.silent(15)
	})
}

func TestP13_2Bytes(t *testing.T) {
	everywhere(t, func(l *line) {
		l.opens(9)
		l.comes(ack, 5, 0, 9, "abc")
		l.out(l.p(ack, 0, 0, all, ""))
		l.comes(ack, 6, 0, 9, "XYZ") // over what came there
		l.comes(ack, 0, 0, 9, "01")
		l.comes(ack, 11, 0, 9, "m")
		l.Conn.Out()
		l.end(api.End{State: api.Established, Ready: 2})
		l.comes(ack, 1, 0, 9, "-234") // it came once
		l.out(l.p(ack, 0, 9, all-9, ""))
		l.reads(99, "01234aXYZ")
		l.comes(ack, 9, 0, 9, "kl")
		l.reads(99, "klm")
		l.Conn.Out()
		// What was handed on leaves nothing behind.
		l.comes(ack, 13, 0, 9, "q")
		l.comes(ack, 12, 0, 9, "p")
		l.out(l.p(ack, 0, 12, all, ""), l.p(ack, 0, 14, all-2, ""))
		l.reads(99, "pq")
	})
}

// No more bytes are taken than there is room for.
func TestP13_2BytesPastTheWindow(t *testing.T) {
	everywhere(t, func(l *line) {
		l.opens(9)
		l.fills(1000)
		s := text(100)
		l.comes(ack, 1001, 0, 9, s)
		l.comes(ack, 1000, 0, 9, "-")
		l.out(l.p(ack, 0, 1000, 24, ""), l.p(ack, 0, 1024, 0, ""))
		l.comes(ack, 1024, 0, 9, s)
		l.out(l.p(ack, 0, 1024, 0, ""))
		l.reads(2000, text(1000)+"-"+s[:23])
		l.out(l.p(ack, 0, 1024, all, ""))
		// From far ahead up to the last place.
		last := text(1024)
		for at := 128; at < 1024; at += 128 {
			l.comes(ack, 1024+at, 0, 9, last[at:at+128])
		}
		l.comes(ack, 1024+1023, 0, 9, last[1023:]+"z")
		l.end(api.End{State: api.Established, Got: 1024})
		l.comes(ack, 1024, 0, 9, last[:128])
		l.reads(2000, last)
	})
}

func TestP13_2Fin(t *testing.T) {
	everywhere(t, func(l *line) {
		l.opens(9)
		l.comes(fin|ack, 0, 0, 9, "abc")
		l.out(l.p(ack, 0, 4, all-3, ""))
		l.end(api.End{State: api.Established, Ready: 3, Fin: true})
		// Behind the end nothing is taken.
		l.comes(ack, 4, 0, 9, "xyz")
		l.comes(fin|ack, 4, 0, 9, "")
		l.comes(fin|ack, 0, 0, 9, "abc")
		told := l.p(ack, 0, 4, all-3, "")
		l.out(told, told, told)
		l.end(api.End{State: api.Established, Ready: 3, Fin: true})
		l.reads(9, "abc")
		// The other direction goes on.
		l.writes("defg")
		l.out(l.p(ack, 0, 4, all, "defg"))
		l.comes(ack, 4, 4, 9, "")
		l.end(api.End{State: api.Established, Sent: 4, Got: 3, Fin: true})
	})
}

func TestP13_2FinEarly(t *testing.T) {
	everywhere(t, func(l *line) {
		l.opens(9)
		l.comes(fin|ack, 3, 0, 9, "d")
		l.comes(fin|ack, 1, 0, 9, "") // where it stands is known
		l.comes(fin|ack, 6, 0, 9, "")
		told := l.p(ack, 0, 0, all, "")
		l.out(told, told, told)
		l.end(api.End{State: api.Established})
		l.comes(ack, 0, 0, 9, "ab")
		l.end(api.End{State: api.Established, Ready: 2})
		l.comes(ack, 2, 0, 9, "c")
		l.out(l.p(ack, 0, 2, all-2, ""), l.p(ack, 0, 5, all-4, ""))
		l.end(api.End{State: api.Established, Ready: 4, Fin: true})
		l.reads(9, "abcd")
	})
}

// What came behind the end is not read.
func TestP13_2FinAmongBytes(t *testing.T) {
	everywhere(t, func(l *line) {
		l.opens(9)
		l.comes(ack, 1, 0, 9, "bcdefg")
		l.comes(fin|ack, 3, 0, 9, "")
		l.comes(ack, 0, 0, 9, "a")
		told := l.p(ack, 0, 0, all, "")
		l.out(told, told, l.p(ack, 0, 4, all-3, ""))
		l.comes(ack, 4, 0, 9, "h")
		l.comes(ack, 4, 0, 9, "")
		l.out(l.p(ack, 0, 4, all-3, ""))
		l.reads(9, "abc")
		l.end(api.End{State: api.Established, Got: 3, Fin: true})
	})
}

// The end may stand just behind the window, not further.
func TestP13_2FinAtTheWindow(t *testing.T) {
	everywhere(t, func(l *line) {
		s := text(128)
		for _, x := range []struct {
			number, size int
			known        bool
		}{
			{1000, 24, true}, {1000, 25, false}, {1000, 23, true}, {1014, 10, true}, {1014, 11, false}, {990, 34, true}, {990, 35, false}, {1000, 0, true}, {999, 1, true}, {1023, 1, true}, {1023, 0, true},
		} {
			l.opens(9)
			l.fills(1000)
			l.comes(fin|ack, x.number, 0, 9, s[:x.size])
			l.comes(ack, 1000, 0, 9, s) // nothing more is missing
			if l.End().Fin != x.known {
				l.Fatalf("%+v: %v", x, l.End())
			}
			if end := min(24, x.number+x.size-1000); x.known && l.End().Ready != 1000+end {
				l.Fatalf("%+v: %v", x, l.End())
			}
			if !x.known { // nor is it when there is room again
				l.Read(2000)
				l.comes(ack, 1024, 0, 9, s)
				l.end(api.End{State: api.Established, Got: 1024, Ready: 128})
			}
		}
		// No room is no hindrance.
		l.opens(9)
		l.fills(1024)
		l.comes(fin|ack, 1024, 0, 9, "")
		l.out(l.p(ack, 0, 1025, 0, ""))
		l.end(api.End{State: api.Established, Ready: 1024, Fin: true})
		// Ahead of what is expected it can't stand.
		l.opens(9)
		l.fills(100)
		l.comes(fin|ack, 98, 0, 9, "a")
		l.comes(fin|ack, 98, 0, 9, "")
		l.comes(ack, 100, 0, 9, "x")
		l.end(api.End{State: api.Established, Ready: 101})
	})
}

// What is told stands ahead of what is sent.
func TestP13_2TellsAndPushes(t *testing.T) {
	everywhere(t, func(l *line) {
		l.opens(0)
		l.writes("abc")
		l.out()
		l.comes(ack, 0, 0, 9, "x")
		l.out(l.p(ack, 0, 1, all-1, ""), l.p(ack, 0, 1, all-1, "abc"))
		l.Close()
		l.out(l.p(fin|ack, 3, 1, all-1, ""))
	})
}

func TestP13_2Over(t *testing.T) {
	everywhere(t, func(l *line) {
		over := func(want api.End) {
			l.Helper()
			l.end(want)
			l.comes(rst, 1, 0, 9, "")
			l.comes(0, 1, 0, 9, "x")
			l.comes(ack, 1, 1, 9, "")
			l.out()
			told := l.p(ack, 1, 1, all, "")
			l.comes(syn, -1, 0, 9, "")
			l.comes(fin|ack, 0, 1, 9, "")
			l.comes(ack, 1, 1, 9, "xyz")
			l.comes(ack, 1, 2, 9, "")
			l.comes(ack, 0, 1, 9, "")
			l.out(told, told, told, told, told)
			l.Close()
			l.Abort()
			if n := l.Write([]byte("x")); n != 0 || l.Room() != 0 {
				l.Fatal(n, l.Room())
			}
			l.silent(300)
			l.end(want)
		}
		// It ends ahead of the other one.
		l.opens(9)
		l.Close()
		l.out(l.p(fin|ack, 0, 0, all, ""))
		l.comes(ack, 0, 1, 9, "")
		l.is(api.Established)
		l.comes(fin|ack, 0, 1, 9, "")
		l.out(l.p(ack, 1, 1, all, ""))
		over(api.End{State: api.Over, Fin: true, Shut: true})
		// Behind it.
		l.opens(9)
		l.comes(fin|ack, 0, 0, 9, "")
		l.out(l.p(ack, 0, 1, all, ""))
		l.is(api.Established)
		l.Close()
		l.out(l.p(fin|ack, 0, 1, all, ""))
		l.is(api.Established)
		l.comes(ack, 1, 1, 9, "")
		l.out()
		over(api.End{State: api.Over, Fin: true, Shut: true})
		// At once.
		l.opens(9)
		l.Close()
		l.Conn.Out()
		l.comes(fin|ack, 0, 1, 9, "")
		l.out(l.p(ack, 1, 1, all, ""))
		over(api.End{State: api.Over, Fin: true, Shut: true})
		// What was not read may be.
		l.opens(9)
		l.fills(1000)
		l.Close()
		l.comes(fin|ack, 1000, 1, 9, "")
		l.Conn.Out()
		l.end(api.End{State: api.Over, Ready: 1000, Fin: true, Shut: true})
		l.reads(2000, text(1000))
		l.out()
	})
}

func TestP13_3Asks(t *testing.T) {
	everywhere(t, func(l *line) {
		for _, asks := range []bool{true, false} {
			var said api.Packet
			if asks {
				l.dials()
				said = l.p(syn, -1, 0, all, "")
			} else {
				l.accepts(9)
				said = l.p(syn|ack, -1, 0, all, "")
			}
			for range 30 {
				l.silent(3)
				l.Tick()
				l.out(said)
			}
			l.silent(3)
			l.Tick()
			l.end(api.End{State: api.Reset})
			if asks {
				l.out()
			} else {
				l.out(l.p(rst|ack, 0, 0, all, ""))
			}
			l.silent(200)
		}
	})
}

func TestP13_3Again(t *testing.T) {
	everywhere(t, func(l *line) {
		s := text(300)
		l.opens(260)
		l.writes(s)
		l.Conn.Out()
		for range 30 {
			l.silent(3)
			l.Tick()
			l.out(l.p(ack, 0, 0, all, s[:128]), l.p(ack, 128, 0, all, s[128:256]), l.p(ack, 256, 0, all, s[256:260]))
		}
		l.silent(3)
		l.is(api.Established)
		l.Tick()
		l.out(l.p(rst|ack, 260, 0, all, ""))
		l.end(api.End{State: api.Reset})
	})
}

// What is told meanwhile stands behind all that were ever sent.
func TestP13_3AgainTells(t *testing.T) {
	everywhere(t, func(l *line) {
		s := text(300)
		l.opens(300)
		l.writes(s)
		l.Conn.Out()
		l.comes(ack, 0, 0, 100, "")
		l.passes(4)
		l.out(l.p(ack, 0, 0, all, s[:100]))
		l.comes(ack, 0, 0, 100, "x")
		l.comes(syn, 0, 0, 100, "")
		l.out(l.p(ack, 300, 1, all-1, ""), l.p(ack, 300, 1, all-1, ""))
	})
}

// The end is sent again, as far as all ahead of it is.
func TestP13_3AgainTheEnd(t *testing.T) {
	everywhere(t, func(l *line) {
		l.opens(9)
		l.writes("abc")
		l.Close()
		l.Conn.Out()
		l.passes(4)
		l.out(l.p(ack, 0, 0, all, "abc"), l.p(fin|ack, 3, 0, all, ""))
		l.comes(ack, 0, 0, 2, "")
		l.passes(4)
		l.out(l.p(ack, 0, 0, all, "ab"))
		l.comes(ack, 0, 3, 0, "") // no room, and no bytes
		l.out(l.p(fin|ack, 3, 0, all, ""))
		l.silent(3)
		l.Tick()
		l.out(l.p(fin|ack, 3, 0, all, ""))
	})
}

// Where there is no room, a byte asks for some.
func TestP13_3NoRoom(t *testing.T) {
	everywhere(t, func(l *line) {
		l.opens(0)
		l.writes("abc")
		l.Close()
		for range 3 {
			l.silent(3)
			l.Tick()
			l.out(l.p(ack, 0, 0, all, "a"))
		}
		l.comes(ack, 0, 0, 0, "")
		l.out()
		l.comes(ack, 0, 1, 1, "")
		l.out(l.p(ack, 1, 0, all, "b"))
		l.comes(ack, 0, 2, 0, "")
		l.silent(3)
		l.Tick()
		l.out(l.p(ack, 2, 0, all, "c"))
		l.comes(ack, 0, 2, 0, "") // all bytes were sent now
		l.out(l.p(fin|ack, 3, 0, all, ""))
		// Where there is room for a byte, it is sent as always.
		l.opens(1)
		l.writes("a")
		l.Close()
		l.Conn.Out()
		l.passes(4)
		l.out(l.p(ack, 0, 0, all, "a"), l.p(fin|ack, 1, 0, all, ""))
		// As long as the other one answers, it goes on.
		l.opens(0)
		l.writes("abc")
		for range 200 {
			l.passes(4)
			l.out(l.p(ack, 0, 0, all, "a"))
			l.comes(ack, 0, 0, 0, "")
		}
		l.comes(ack, 0, 0, 9, "")
		l.out(l.p(ack, 1, 0, all, "bc"))
	})
}

func TestP13_3Idle(t *testing.T) {
	everywhere(t, func(l *line) {
		l.opens(9)
		for range 7 {
			l.silent(15)
			l.Tick()
			l.out(l.p(ack, -1, 0, all, ""))
		}
		l.silent(15)
		l.is(api.Established)
		l.Tick()
		l.out(l.p(rst|ack, 0, 0, all, ""))
		l.end(api.End{State: api.Reset})
		l.silent(200)
		// Whatever comes begins it anew.
		for _, p := range []api.Packet{l.yourP(ack, 0, 2, 9, ""), l.yourP(rst, 5000, 0, 9, ""), l.yourP(0, 0, 0, 9, ""), l.yourP(syn, 9, 0, 9, "")} {
			l.opens(9)
			l.writes("ab")
			l.comes(ack, 0, 2, 9, "")
			l.passes(127)
			l.Take(p)
			l.Conn.Out()
			l.silent(15)
			l.Tick()
			l.out(l.p(ack, 1, 0, all, ""))
			l.passes(111)
			l.is(api.Established)
			l.Tick()
			l.is(api.Reset)
		}
	})
}

// What is sent again asks, too; who does not know the other one's numbers asks by its question alone.
func TestP13_3IdleWhileSentAgain(t *testing.T) {
	everywhere(t, func(l *line) {
		l.opens(9)
		l.writes("abc")
		l.Conn.Out()
		l.passes(12)
		l.Conn.Out()
		l.silent(3)
		l.Tick() // the sixteenth
		l.out(l.p(ack, 0, 0, all, "abc"))
		l.opens(9)
		l.silent(2)
		l.writes("abc")
		l.Conn.Out()
		l.silent(3)
		l.Tick() // four behind the writing, whatever passed ahead of it
		l.out(l.p(ack, 0, 0, all, "abc"))
		l.passes(9)
		l.Conn.Out()
		l.Tick() // the sixteenth: two behind the last that was sent again
		l.out(l.p(ack, -1, 0, all, ""))
		for _, begin := range []func(){l.dials, func() { l.accepts(9) }} {
			begin()
			l.silent(2)
			l.comes(0, 0, 0, 9, "") // from here on sixteen
			l.passes(14)
			l.Conn.Out()
			l.silent(2)
		}
	})
}

// The one that hears nothing is given up, whatever it waits for.
func TestP13_3Gone(t *testing.T) {
	everywhere(t, func(l *line) {
		l.opens(9)
		l.passes(100)
		l.writes("abc")
		l.Conn.Out()
		l.passes(27)
		l.is(api.Established)
		l.Conn.Out()
		l.Tick()
		l.out(l.p(rst|ack, 3, 0, all, ""))
		l.is(api.Reset)
	})
}

func TestP13_4Write(t *testing.T) {
	everywhere(t, func(l *line) {
		s := text(2000)
		room := func(want int) {
			l.Helper()
			if n := l.Room(); n != want {
				l.Fatalf("room for %d, not %d", n, want)
			}
		}
		write := func(b string, want int) {
			l.Helper()
			if n := l.Write([]byte(b)); n != want {
				l.Fatalf("%d were written, not %d", n, want)
			}
		}
		l.opens(65535)
		room(1024)
		write("", 0)
		write(s[:1000], 1000)
		room(24)
		write(s[1000:], 24)
		room(0)
		write("x", 0)
		want := []api.Packet{}
		for at := 0; at < 1000; at += 128 {
			want = append(want, l.p(ack, at, 0, all, s[at:min(1000, at+128)]))
		}
		l.out(append(want, l.p(ack, 1000, 0, all, s[1000:1024]))...)
		l.comes(ack, 0, 100, 65535, "")
		room(100)
		write(s[1024:], 100)
		l.out(l.p(ack, 1024, 0, all, s[1024:1124]))
		l.end(api.End{State: api.Established, Sent: 100, Queued: 1024})
		l.Close()
		room(0)
		l.comes(ack, 0, 200, 65535, "")
		room(0)
		write("x", 0)
		l.comes(rst, 0, 0, 0, "")
		room(0)
		write("x", 0)
		l.dials()
		room(1024)
		write(s, 1024)
		room(0)
		l.Abort()
		room(0)
		write("x", 0)
		l.out()
		l.accepts(9)
		room(1024)
		write(s[:1], 1)
		room(1023)
		l.out()
	})
}

func TestP13_4Read(t *testing.T) {
	everywhere(t, func(l *line) {
		l.opens(9)
		l.fills(10)
		s := text(10)
		l.reads(0, "")
		l.reads(-1, "")
		l.reads(math.MinInt, "")
		l.reads(3, s[:3])
		l.reads(1, s[3:4])
		l.end(api.End{State: api.Established, Got: 4, Ready: 6})
		l.reads(math.MaxInt, s[4:])
		l.reads(1, "")
		l.end(api.End{State: api.Established, Got: 10})
		l.out()
	})
}

// That there is room again is told when there is room for a packet.
func TestP13_4ReadTells(t *testing.T) {
	everywhere(t, func(l *line) {
		for _, x := range []struct {
			ready, first, second int
			tells                bool
		}{
			{1024, 127, 1, true}, {1024, 127, 0, false}, {1024, 126, 1, false}, {1024, 0, 128, true}, {1024, 0, 1024, true},
			{897, 0, 1, true}, {897, 0, 0, false}, {896, 0, 1, false}, {896, 0, 896, false}, {1000, 100, 4, true}, {1000, 104, 1, false},
		} {
			l.opens(9)
			l.fills(x.ready)
			l.Read(x.first)
			l.Conn.Out()
			l.Read(x.second)
			if x.tells {
				l.out(l.p(ack, 0, x.ready, all-x.ready+x.first+x.second, ""))
			} else {
				l.out()
			}
		}
		l.opens(9)
		l.fills(1024)
		l.comes(ack, 1024, 0, 500, "") // it may send, but tells at top
		l.writes("abc")
		l.Conn.Out()
		l.reads(128, text(128))
		l.out(l.p(ack, 3, 1024, 128, ""))
	})
}

func TestP13_4Close(t *testing.T) {
	everywhere(t, func(l *line) {
		l.opens(0)
		l.Close()
		l.out(l.p(fin|ack, 0, 0, all, "")) // the end needs no room
		l.end(api.End{State: api.Established, Shut: true})
		l.Close()
		l.out()
		l.opens(2)
		l.writes("abc")
		l.Close()
		l.out(l.p(ack, 0, 0, all, "ab"))
		l.comes(ack, 0, 2, 2, "")
		l.out(l.p(ack, 2, 0, all, "c"), l.p(fin|ack, 3, 0, all, ""))
		for _, begin := range []func(){l.dials, func() { l.accepts(9) }} {
			begin()
			l.Close()
			l.out()
			if !l.End().Shut || l.Room() != 0 {
				l.Fatal(l.End(), l.Room())
			}
			l.comes(syn|ack, -1, 0, 9, "")
			l.comes(ack, 0, 0, 9, "")
			if out := l.Conn.Out(); !same(out[len(out)-1], l.p(fin|ack, 0, 0, all, "")) {
				l.Fatal(out)
			}
		}
		l.opens(9)
		l.Abort()
		l.Close()
		l.end(api.End{State: api.Reset})
	})
}

func TestP13_4Abort(t *testing.T) {
	everywhere(t, func(l *line) {
		l.dials()
		l.writes("abc")
		l.Abort()
		l.out()
		l.end(api.End{State: api.Reset})
		l.accepts(9)
		l.writes("abc")
		l.Abort()
		l.out(l.p(rst|ack, 0, 0, all, ""))
		l.end(api.End{State: api.Reset})
		l.opens(9)
		l.fills(10)
		l.reads(4, text(4))
		l.writes("abcdef")
		l.comes(ack, 10, 2, 1, "")
		l.passes(4) // what is sent next stands ahead of what was sent
		l.Conn.Out()
		l.Close()
		l.Abort()
		l.out(l.p(rst|ack, 6, 10, all-6, ""))
		l.end(api.End{State: api.Reset, Sent: 2, Got: 4, Shut: true})
		l.reads(9, "")
		l.Abort()
		l.Close()
		l.silent(200)
		l.end(api.End{State: api.Reset, Sent: 2, Got: 4, Shut: true})
	})
}

func TestP13_5End(t *testing.T) {
	everywhere(t, func(l *line) {
		l.opens(4)
		l.writes("abcdef")
		l.Close()
		l.comes(ack, 0, 1, 4, "uvw")
		l.comes(ack, 5, 1, 4, "z")
		l.reads(1, "u")
		l.end(api.End{State: api.Established, Sent: 1, Queued: 5, Got: 1, Ready: 2, Shut: true})
		l.comes(fin|ack, 3, 6, 4, "xy") // so much was not sent
		l.end(api.End{State: api.Established, Sent: 1, Queued: 5, Got: 1, Ready: 2, Shut: true})
		l.comes(ack, 3, 5, 4, "")
		l.end(api.End{State: api.Established, Sent: 5, Queued: 1, Got: 1, Ready: 2, Shut: true})
		l.comes(fin|ack, 3, 6, 4, "xy")
		l.end(api.End{State: api.Established, Sent: 6, Got: 1, Ready: 4, Fin: true, Shut: true})
		l.comes(ack, 6, 7, 4, "")
		l.end(api.End{State: api.Over, Sent: 6, Got: 1, Ready: 4, Fin: true, Shut: true})
		l.reads(9, "vwxy")
		l.end(api.End{State: api.Over, Sent: 6, Got: 5, Fin: true, Shut: true})
	})
}

// What neither call made has nothing and does nothing.
func TestP13_5NoEndpoint(t *testing.T) {
	bad := tcp.Dial(0, 0, 0, 0, 0, 0)
	for _, c := range []*tcp.Conn{nil, {}, bad, tcp.Accept(api.Packet{}, 0)} {
		l := &line{T: t, Conn: c, mine: 8, yours: 101}
		for range 2 {
			for flags := range 16 {
				l.comes(flags, 0, 0, 9, "abc")
				l.comes(flags, -1, 1, 9, "")
			}
			if n := l.Write([]byte("abc")); n != 0 || l.Room() != 0 {
				t.Errorf("%d were written, room for %d", n, l.Room())
			}
			if b := l.Read(5); b != nil {
				t.Errorf("%v was read", b)
			}
			l.Close()
			l.silent(200)
			l.Abort()
			l.out()
			l.end(api.End{})
		}
	}
}

// party is an endpoint, what its host wrote and read, and what is on its way to it.
type party struct {
	*tcp.Conn
	wrote, got []byte
	way        []api.Packet
	most       int // bytes that are written
}

// told tells whether its host was told the end, and read all.
func (p *party) told() bool {
	e := p.End()
	return e.Fin && e.Ready == 0 && e.State != api.Reset
}

// play is two endpoints that speak to one another.
type play struct {
	*testing.T
	dice
	both [2]*party // the second one's endpoint is made when it is asked
	iss  uint32
	last [2]int // states
}

func newPlay(t *testing.T, seed int) *play {
	p := &play{T: t, dice: dice(seed * 7919)}
	first := func() uint32 { return uint32(p.below(1200) - 1100) }
	p.iss = first() + uint32(p.below(2))<<31
	p.both = [2]*party{{Conn: tcp.Dial(1, 1000, 2, 80, 0, first()), most: p.below(6000)}, {most: p.below(6000)}}
	p.sent()
	return p
}

// sent lays what was put out on its way.
func (p *play) sent() {
	p.Helper()
	for i, x := range p.both {
		for _, q := range x.Out() {
			if packet.Check(q) != api.OK {
				p.Fatalf("%v was put out", q)
			}
			y := p.both[1-i]
			y.way = append(y.way, q)
		}
	}
}

// take takes one of what is on its way.
func (p *play) take(i, at int, again bool) {
	x := p.both[i]
	q := x.way[at]
	if !again {
		x.way = append(x.way[:at], x.way[at+1:]...)
	}
	if x.Conn == nil {
		x.Conn = tcp.Accept(q, p.iss)
	} else {
		x.Take(q)
	}
}

// holds asks for what holds at all times.
func (p *play) holds() {
	p.Helper()
	for i, x := range p.both {
		y, e := p.both[1-i], x.End()
		if !bytes.HasPrefix(y.wrote, x.got) {
			p.Fatalf("%d bytes were read that were not written", len(x.got))
		}
		if x.told() && (!y.End().Shut || len(x.got) != len(y.wrote)) {
			p.Fatalf("the end was told behind %d of %d bytes", len(x.got), len(y.wrote))
		}
		if e.Ready > 1024 || e.Queued > 1024 || x.Room() > 1024 {
			p.Fatalf("%+v, room for %d", e, x.Room())
		}
		if p.last[i] >= api.Over && e.State != p.last[i] {
			p.Fatalf("from state %d to %d", p.last[i], e.State)
		}
		if e.State != api.Reset && e.Sent+e.Queued != len(x.wrote) || e.Got != len(x.got) {
			p.Fatalf("%+v, but %d were written and %d read", e, len(x.wrote), len(x.got))
		}
		p.last[i] = e.State
	}
}

// write writes some of what is left.
func (p *play) write(x *party, n int) {
	b := []byte(text(10000)[len(x.wrote) : len(x.wrote)+min(n, x.most-len(x.wrote))])
	x.wrote = append(x.wrote, b[:x.Write(b)]...)
}

// step does something: what is on its way comes late, is lost, or comes again.
func (p *play) step() {
	i := p.below(2)
	x := p.both[i]
	switch n := p.below(100); {
	case n < 15:
		p.write(x, p.below(700))
	case n < 30:
		x.got = append(x.got, x.Read(p.below(700))...)
	case n < 33:
		x.Tick()
	case n < 34 && len(x.wrote) == x.most:
		x.Close()
	case len(x.way) == 0:
	case n < 45:
		p.take(i, p.below(len(x.way)), true)
	case n < 60:
		at := p.below(len(x.way))
		x.way = append(x.way[:at], x.way[at+1:]...)
	default:
		p.take(i, p.below(len(x.way)), false)
	}
	p.sent()
	p.holds()
}

// ticks lets time pass while nothing is lost, and both read.
func (p *play) ticks(n int) {
	p.Helper()
	for range n {
		for moves := 0; len(p.both[0].way)+len(p.both[1].way) > 0; moves++ {
			if moves > 2000 {
				p.Fatal("they never fall silent")
			}
			for i, x := range p.both {
				if len(x.way) > 0 {
					p.take(i, 0, false)
				}
				x.got = append(x.got, x.Read(2000)...)
				p.write(x, 10000)
			}
			p.sent()
			p.holds()
		}
		for _, x := range p.both {
			x.got = append(x.got, x.Read(2000)...)
			x.Tick()
			if x.Conn != nil && len(x.wrote) == x.most {
				x.Close()
			}
		}
		p.sent()
		p.holds()
	}
}

// broken tells whether one of both is.
func (p *play) broken() bool {
	return p.both[0].End().State == api.Reset || p.both[1].End().State == api.Reset
}

// Whatever is lost, late, doubled: what holds at all times does, and in the end all comes through.
func TestP13_6InOrder(t *testing.T) {
	through := 0
	for seed := range 200 {
		p := newPlay(t, seed)
		for range 1500 {
			p.step()
		}
		if p.broken() {
			continue
		}
		through++
		for _, x := range p.both { // nothing more is written but what is there
			x.most = len(x.wrote)
		}
		p.ticks(200)
		if p.broken() {
			t.Fatal("in the end it is broken")
		}
		for i, x := range p.both {
			if y := p.both[1-i]; !bytes.Equal(x.got, y.wrote) || !x.told() || x.End().State != api.Over {
				t.Fatalf("seed %d: %d of %d bytes were read: %+v, %+v", seed, len(x.got), len(y.wrote), x.End(), y.End())
			}
		}
	}
	if through < 150 {
		t.Fatalf("only %d of 200 came through", through)
	}
}

// The end is told only behind all that was written, and is not told of what is broken.
func TestP13_7Honest(t *testing.T) {
	told, broken := 0, 0
	for seed := range 200 {
		p := newPlay(t, 1000+seed)
		for range 2 + p.below(2000) {
			p.step()
		}
		if p.both[1].Conn == nil {
			continue
		}
		switch seed % 4 {
		case 0:
			p.both[0].Abort()
		case 1:
			p.both[1].Abort()
		case 2: // one hears nothing any more
			for range 128 {
				p.both[0].Tick()
			}
		}
		p.sent()
		for range 1000 {
			p.step()
		}
		for _, x := range p.both {
			if x.told() {
				told++
			}
		}
		if p.broken() {
			broken++
		}
	}
	if told < 40 || broken < 100 {
		t.Fatalf("%d were told the end, %d were broken", told, broken)
	}
}

func TestP13_8InTheEnd(t *testing.T) {
	// Nobody reads for long; all that asks and tells is lost.
	l, r := party{Conn: tcp.Dial(1, 1000, 2, 80, 0, math.MaxUint32-500), most: 3000}, party{most: 3000}
	p := &play{T: t, both: [2]*party{&l, &r}, iss: math.MaxUint32 - 700}
	p.sent()
	p.take(1, 0, false)
	p.sent()
	for range 400 {
		for i, x := range p.both {
			p.write(x, 3000)
			for len(x.way) > 0 {
				p.take(i, 0, false)
			}
			x.Tick()
		}
		p.sent()
		p.holds()
	}
	if l.End().Ready != 1024 || r.End().Ready != 1024 {
		t.Fatal(l.End(), r.End())
	}
	for _, x := range p.both {
		x.got = append(x.got, x.Read(2000)...)
		x.Out() // that there is room is lost
		x.way = nil
	}
	p.ticks(200)
	if l.End().State != api.Over || r.End().State != api.Over || len(l.got) != 3000 || len(r.got) != 3000 {
		t.Fatal(l.End(), r.End(), len(l.got), len(r.got))
	}
}

// One that is gone is not waited for, and one that never was asked answers nothing.
func TestP13_8Gone(t *testing.T) {
	l := &line{T: t, mine: 8, yours: 101}
	l.opens(9)
	r := tcp.Accept(l.p(syn, -1, 0, 9, ""), l.yours-1)
	r.Out()
	r.Abort() // its answer was lost
	for range 200 {
		l.Tick()
		for _, q := range l.Conn.Out() {
			r.Take(q)
		}
		for _, q := range r.Out() {
			l.Take(q)
		}
	}
	l.is(api.Reset)
}

// Whatever comes, nothing that may not be is put out, and no more is kept than may be.
func TestP13_9Bounds(t *testing.T) {
	d := dice(5)
	for round := range 300 {
		c := tcp.Dial(1, 1000, 2, 80, round%3, uint32(round-150))
		if round%2 == 1 {
			c = tcp.Accept(api.Packet{Src: 2, Sport: 80, Dst: 1, Dport: 1000, Seq: uint32(round - 150), Flags: syn, Window: d.below(65536)}, uint32(round-150))
		}
		last, state := api.Packet{}, 0
		for range 300 {
			p := api.Packet{Src: 2, Sport: 80, Dst: 1, Dport: 1000, Flags: d.below(16), Window: d.below(2000), Data: make([]byte, d.below(129))}
			p.Seq, p.Ack = last.Ack+uint32(d.below(1200)-100), last.Seq+uint32(d.below(300)-150)
			switch d.below(8) {
			case 0:
				p.Seq, p.Ack = uint32(d.below(1<<31)), uint32(d.below(1<<31))
			case 1, 2, 3, 4:
				p.Seq, p.Flags = last.Ack, p.Flags&fin|ack|p.Flags&syn
			case 5:
				p.Ack = last.Seq
			}
			c.Take(p)
			c.Write(make([]byte, d.below(500)))
			if d.below(3) == 0 {
				c.Read(d.below(1000) - 100)
			}
			c.Tick()
			if d.below(100) == 0 {
				c.Close()
			}
			for _, q := range c.Out() {
				if packet.Check(q) != api.OK {
					t.Fatalf("%v was put out", q)
				}
				last = q
			}
			e := c.End()
			if e.Ready > 1024 || e.Queued > 1024 || e.Ready < 0 || e.Queued < 0 || c.Room() < 0 {
				t.Fatalf("%+v, room for %d", e, c.Room())
			}
			if state >= api.Over && e.State != state {
				t.Fatalf("from state %d to %d", state, e.State)
			}
			state = e.State
		}
	}
}

func TestP13_10Over(t *testing.T) {
	everywhere(t, func(l *line) {
		for _, begin := range []func(){
			func() { l.opens(9); l.Abort() },
			func() { l.dials(); l.Abort() },
			func() { l.opens(9); l.Close(); l.comes(fin|ack, 0, 1, 9, "") },
		} {
			begin()
			before := l.End()
			for flags := range 16 {
				for number := -2; number < 3; number++ {
					for acked := -2; acked < 3; acked++ {
						l.comes(flags, number, acked, 9, strings.Repeat("x", flags&1))
					}
				}
			}
			l.Write([]byte("abc"))
			l.Read(9)
			l.Close()
			l.passes(300)
			l.Abort()
			l.end(before)
		}
	})
}

func TestObjectsApart(t *testing.T) {
	a, b := &line{T: t, mine: 8, yours: 101}, &line{T: t, mine: 8, yours: 101}
	a.opens(9)
	b.opens(9)
	a.writes("abc")
	a.comes(ack, 0, 0, 9, "xyz")
	a.Abort()
	b.out()
	b.end(api.End{State: api.Established})
}

func TestMemoryIsNew(t *testing.T) {
	l := &line{T: t, mine: 8, yours: 101}
	l.opens(9)
	given := []byte("abcdefgh")
	l.Write(given[:3])
	if string(given) != "abcdefgh" {
		t.Error("Write changes what it was given")
	}
	clear(given)
	want := l.p(ack, 0, 0, all, "abc")
	for range 3 {
		out := l.Conn.Out()
		if len(out) != 1 || !same(out[0], want) {
			t.Fatal(out)
		}
		clear(out[0].Data)
		_ = append(out[0].Data, "xxxxxxxx"...)
		_ = append(out, api.Packet{}, api.Packet{})
		clear(out[:cap(out)])
		l.passes(4)
	}
	l.Conn.Out()
	p := l.yourP(ack, 3, 0, 9, "defgh")
	whole := p.Data
	p.Data = whole[:3]
	l.Take(p)
	if string(whole) != "defgh" {
		t.Error("Take changes what it was given")
	}
	clear(whole)
	l.comes(ack, 0, 0, 9, "abc")
	b := l.Read(2)
	clear(b)
	_ = append(b, "xxxxxxxx"...)
	l.reads(9, "cdef")
	a := tcp.Dial(1, 1000, 2, 80, 0, 7)
	r := tcp.Accept(a.Out()[0], 100)
	if r.End().State != api.SynRcvd {
		t.Error(r.End())
	}
}
