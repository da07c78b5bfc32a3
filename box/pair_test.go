package box_test

import (
	"bytes"
	"slices"
	"testing"

	"flume/api"
	"flume/box"
	"flume/packet"
	"flume/tcp"
)

// To whom something is on its way.
const (
	toLeft = iota
	toBoxL
	wideToBoxL
	wideToBoxR
	toBoxR
	toRight
)

type parcel struct {
	to int
	x  []byte
}

// talk is a connection of two hosts.
type talk struct {
	name           int // Left's port
	left, right    *tcp.Conn
	peer           api.Packet // the question that Right's end took
	wrote, got     [2][]byte  // by Left, and by Right
	closed         [2]bool
	broken, ending [2]bool // as its reader was told
}

// end is one's endpoint of a talk, or nil.
func (k *talk) end(side int) *tcp.Conn {
	if side == 0 {
		return k.left
	}
	return k.right
}

// pair is two boxes, two hosts, and what is on its way between them.
type pair struct {
	*testing.T
	boxes   [2]*box.Box
	boots   [2]int
	talks   []*talk
	bag     []parcel
	unprobe bool
	crossed []parcel // all that went over the wide side, if it is kept
	keeps   bool
}

func pairs(t *testing.T, iss uint32) *pair {
	w := &pair{T: t}
	w.boxes[0], _ = box.New(api.BoxL, 0, iss)
	w.boxes[1], _ = box.New(api.BoxR, 0, iss)
	return w
}

// post puts on its way all that was put out.
func (w *pair) post() {
	for _, k := range w.talks {
		w.postConn(k.left, toBoxL)
	}
	for _, k := range w.talks {
		w.postConn(k.right, toBoxR)
	}
	lan, wan := w.boxes[0].Out()
	w.postAll(toLeft, lan)
	w.postAll(wideToBoxR, wan)
	lan, wan = w.boxes[1].Out()
	w.postAll(toRight, lan)
	w.postAll(wideToBoxL, wan)
}

func (w *pair) postConn(c *tcp.Conn, to int) {
	for _, p := range c.Out() {
		w.postAll(to, [][]byte{bytesOf(w.T, packet.Put, p)})
	}
}

func (w *pair) postAll(to int, l [][]byte) {
	for _, x := range l {
		w.bag = append(w.bag, parcel{to, x})
		if w.keeps && (to == wideToBoxL || to == wideToBoxR) {
			w.crossed = append(w.crossed, parcel{to, bytes.Clone(x)})
		}
	}
}

// dials is a connection that Left asks for.
func (w *pair) dials(name int) *talk {
	k := &talk{name: name, left: tcp.Dial(api.Left, name, api.Right, api.Served, 0, uint32(name)<<16)}
	w.talks = append(w.talks, k)
	w.post()
	return k
}

// comes lets something come.
func (w *pair) comes(place int) {
	c := w.bag[place]
	w.bag = slices.Delete(w.bag, place, place+1)
	switch c.to {
	case toBoxL:
		w.boxes[0].Lan(c.x)
	case toBoxR:
		w.boxes[1].Lan(c.x)
	case wideToBoxL:
		w.boxes[0].Wan(c.x)
	case wideToBoxR:
		if _, e := packet.Get(c.x); w.unprobe && e == api.OK {
			c.x, _ = packet.Probed(c.x, 0)
		}
		w.boxes[1].Wan(c.x)
	default:
		w.comesHost(c)
	}
	w.bounds()
	w.post()
}

// comesHost lets a packet come to a host.
func (w *pair) comesHost(c parcel) {
	p, e := packet.Get(c.x)
	if e != api.OK {
		w.Fatalf("% x comes to a host", c.x)
	}
	if c.to == toLeft {
		for _, k := range w.talks {
			if k.name == p.Dport {
				k.left.Take(p)
				return
			}
		}
	} else if w.comesRight(p) {
		return
	}
	if r, ok := packet.Refuse(p); ok {
		to := toBoxL
		if c.to == toRight {
			to = toBoxR
		}
		w.postAll(to, [][]byte{bytesOf(w.T, packet.Put, r)})
	}
}

// comesRight lets a packet come to the host Right: whether something took it.
func (w *pair) comesRight(p api.Packet) bool {
	for _, k := range w.talks {
		if k.right != nil && k.speaksTo(p) {
			k.right.Take(p)
			return true
		}
	}
	name := p.Sport
	if p.Src == api.BoxR {
		name = p.Origin
	}
	for _, k := range w.talks {
		if k.name == name && k.right == nil && p.Flags == api.SYN {
			k.right = tcp.Accept(p, uint32(name)<<16+1<<31)
			k.peer = p
			return true
		}
	}
	return false
}

// speaksTo tells whether Right's end speaks to whom a packet comes from.
func (k *talk) speaksTo(p api.Packet) bool {
	return k.peer.Src == p.Src && k.peer.Sport == p.Sport
}

// bounds asks whether there is no more than may be.
func (w *pair) bounds() {
	w.Helper()
	for _, b := range w.boxes {
		l := b.Flows()
		if len(l) > api.MaxFlows || len(b.Chunks()) > api.MaxChunks {
			w.Fatalf("%d flows, %d chunks", len(l), len(b.Chunks()))
		}
		for _, f := range l {
			if f.Sent > api.Retain || f.Held > api.Retain {
				w.Fatalf("%v", f)
			}
		}
	}
}

// tick lets a tick pass.
func (w *pair) tick() {
	for _, side := range []int{0, 1} {
		for _, k := range w.talks {
			k.end(side).Tick()
		}
	}
	w.boxes[0].Tick()
	w.boxes[1].Tick()
	w.post()
}

// writes lets a side of a talk write what it takes.
func (w *pair) writes(k *talk, side int, x []byte) int {
	n := k.end(side).Write(x)
	k.wrote[side] = append(k.wrote[side], x[:n]...)
	w.post()
	return n
}

func (w *pair) closes(k *talk, side int) {
	if c := k.end(side); c != nil {
		c.Close()
		k.closed[side] = k.closed[side] || c.End().Shut
		w.post()
	}
}

// reads lets a side of a talk read, and asks whether that was written, and the end is honest.
func (w *pair) reads(k *talk, side, n int) {
	w.Helper()
	c := k.end(side)
	k.got[side] = append(k.got[side], c.Read(n)...)
	wrote := k.wrote[1-side]
	if !bytes.HasPrefix(wrote, k.got[side]) {
		w.Fatalf("talk %d: side %d read %q, but %q was written", k.name, side, k.got[side], wrote)
	}
	e := c.End()
	k.broken[side] = e.State == api.Reset
	k.ending[side] = e.Fin && e.Ready == 0 && !k.broken[side]
	if k.ending[side] && (len(k.got[side]) != len(wrote) || !k.closed[1-side]) {
		w.Fatalf("talk %d: side %d was told the end behind %d of %d bytes", k.name, side, len(k.got[side]), len(wrote))
	}
	w.post()
}

// calm lets so many ticks pass in which nothing is lost.
func (w *pair) calm(ticks int) {
	w.Helper()
	for range ticks {
		for n := 0; len(w.bag) > 0; n++ {
			if n > 100000 {
				w.Fatal("it goes on for ever")
			}
			w.comes(0)
		}
		for _, k := range w.talks {
			w.reads(k, 0, 300)
			w.reads(k, 1, 300)
		}
		w.tick()
	}
}

// ended asks whether a talk came to its end: each side read all, and its end, or is broken.
func (w *pair) ended(k *talk) {
	w.Helper()
	for side := range 2 {
		whole := len(k.got[side]) == len(k.wrote[1-side]) && k.ending[side] == k.closed[1-side]
		if !whole && !k.broken[side] {
			w.Fatalf("talk %d: side %d read %d of %d bytes; %+v, %+v; %v; %v", k.name, side, len(k.got[side]), len(k.wrote[1-side]),
				k.left.End(), k.right.End(), w.boxes[0].Flows(), w.boxes[1].Flows())
		}
	}
}

// whole asks whether all of a talk came through.
func (w *pair) whole(k *talk) {
	w.Helper()
	w.ended(k)
	if k.broken[0] || k.broken[1] {
		w.Fatalf("talk %d is broken", k.name)
	}
}

// greeted is two boxes that found one another.
func greeted(t *testing.T, iss uint32) *pair {
	t.Helper()
	w := pairs(t, iss)
	w.dials(999).left.Abort()
	w.calm(5)
	for _, b := range w.boxes {
		if _, _, _, up := b.Ends(); !up {
			t.Fatal("no session")
		}
	}
	return w
}

// sends lets a side of a talk write a text in calm, and close.
func (w *pair) sends(k *talk, side int, x []byte) {
	w.Helper()
	for range 200 {
		if c := k.end(side); c != nil {
			x = x[w.writes(k, side, x):]
		}
		w.calm(1)
		if len(x) == 0 {
			w.closes(k, side)
			return
		}
	}
	w.Fatal("it is not taken")
}

// Two boxes carry what two hosts say, both ways, and what they said before goes by reference.
func TestP14_6Through(t *testing.T) {
	w := greeted(t, 5)
	x, y := text(1, 3000), text(2, 900)
	k := w.dials(1000)
	w.sends(k, 0, x)
	w.sends(k, 1, y)
	w.calm(40)
	w.whole(k)
	first := w.boxes[1].Count().Literals
	w.keeps = true
	k = w.dials(1001)
	w.sends(k, 0, y)
	w.closes(k, 1)
	w.calm(40)
	w.whole(k)
	l, r := w.boxes[0].Count(), w.boxes[1].Count()
	if r.Literals != first || l.Refs == 0 || l.Broken+r.Broken+l.Misses+r.Misses != 0 {
		t.Fatalf("%+v and %+v", l, r)
	}
	n := 0
	for _, c := range w.crossed {
		n += len(c.x)
		if bytes.Contains(c.x, y[:20]) || bytes.Contains(c.x, y[400:420]) {
			t.Fatal("it went as it is")
		}
	}
	if _, e := packet.Get(w.crossed[0].x); e == api.OK {
		t.Fatal("a packet was handed on")
	}
	w.calm(40)
	if len(w.boxes[0].Flows())+len(w.boxes[1].Flows()) != 0 {
		t.Fatal("flows are left")
	}
}

// Where probes never arrive, hosts come through by packets that are handed on as they are, but for the probe and the sum.
func TestP14_5HandedOn(t *testing.T) {
	w := pairs(t, 5)
	w.unprobe, w.keeps = true, true
	k, other := w.dials(1000), w.dials(1001)
	w.sends(k, 0, text(1, 3000))
	w.sends(k, 1, text(2, 3000))
	w.closes(other, 0)
	w.calm(20)
	w.closes(other, 1)
	w.calm(20)
	w.whole(k)
	w.whole(other)
	for _, c := range w.crossed {
		p, e := packet.Get(c.x)
		if e != api.OK {
			t.Fatalf("% x is no packet", c.x)
		}
		if probed := p.Flags == api.SYN; probed != (p.Probe == 1) || probed != (p.Probe != 0) {
			t.Fatalf("%v", p)
		}
	}
	l, r := w.boxes[0].Count(), w.boxes[1].Count()
	if l != (api.Count{Passed: len(w.crossed)}) || r != l {
		t.Fatalf("%+v and %+v: %d crossed", l, r, len(w.crossed))
	}
}

// Within a session, too, whatever there is no flow of is handed on, bit for bit.
func TestP14_5NoFlow(t *testing.T) {
	for _, up := range []bool{false, true} {
		for _, side := range []int{api.BoxL, api.BoxR} {
			b := begins(t, side, 0, 0)
			if up {
				b.meets()
			}
			d := dice(side)
			for range 500 {
				p := api.Packet{
					Src: api.Left, Dst: api.Right, Sport: 1 + d.below(65535), Dport: 1 + d.below(65535), Seq: uint32(d.below(1 << 31)), Ack: uint32(d.below(1 << 31)),
					Flags: d.below(16), Window: d.below(65536), Probe: d.below(3), Origin: d.below(5), Data: text(d.below(99), d.below(129)),
				}
				if p.Flags == syn {
					continue
				}
				back := p
				back.Src, back.Dst, back.Probe = api.Right, api.Left, 0
				to, from := p, back
				if side == api.BoxR {
					p.Probe = 0
					to, from = back, p
				}
				b.Lan(bytesOf(t, packet.Put, to))
				b.handed(to)
				b.Wan(bytesOf(t, packet.Put, from))
				b.gave(from)
			}
			b.nothing()
		}
	}
}

// storm lets chance do what it likes for a while.
func (w *pair) storm(d *dice, steps int, restarts bool) {
	w.Helper()
	for range steps {
		k := w.talks[d.below(len(w.talks))]
		side := d.below(2)
		switch what := d.below(100); {
		case len(w.bag) > 300:
			w.bag = slices.Delete(w.bag, 0, 200)
		case what < 60 && len(w.bag) > 0:
			w.comes(min(d.below(len(w.bag)), d.below(len(w.bag))))
		case what < 64 && len(w.bag) > 0:
			w.bag = slices.Delete(w.bag, 0, 1)
		case what < 67 && len(w.bag) > 0:
			w.bag = append(w.bag, w.bag[d.below(len(w.bag))])
		case what < 77:
			w.tick()
		case what < 87 && k.end(side) != nil && len(k.wrote[side]) < 6000:
			w.writes(k, side, text(d.below(3), 700)[d.below(100):d.below(500)+100])
		case what < 95 && k.end(side) != nil:
			w.reads(k, side, d.below(400))
		case what == 95:
			b := w.boxes[side]
			if n := len(b.Chunks()); n > 0 {
				b.Evict(d.below(n))
			}
		case what == 96 && d.below(10) == 0:
			w.closes(k, side)
		case what == 97 && restarts && d.below(20) == 0:
			w.restarts(side)
		case what == 98 && len(w.talks) < 14 && d.below(4) == 0:
			w.dials(1000 + len(w.talks))
		case what == 99 && restarts && d.below(20) == 0 && k.end(side) != nil:
			k.end(side).Abort()
			w.post()
		}
	}
}

// restarts lets a box begin anew.
func (w *pair) restarts(side int) {
	if w.boots[side] < api.MaxBoots {
		w.boots[side]++
		w.boxes[side], _ = box.New(api.BoxL+side, w.boots[side], 5)
		w.bounds()
	}
}

// Whatever happens: what is read was written, its end is honest; and in the end all of it comes through, or is broken.
func TestP14_6Storm(t *testing.T) {
	for seed := range 40 {
		restarts := seed%2 == 1
		d := dice(seed)
		w := greeted(t, uint32(d.below(1<<31)))
		w.dials(1000)
		w.storm(&d, 4000, restarts)
		w.calm(300)
		for _, k := range w.talks[1:] {
			if k.right != nil {
				w.ended(k)
			}
		}
		// A new connection comes through.
		k := w.dials(5000)
		w.sends(k, 0, text(1, 2000))
		w.closes(k, 1)
		w.calm(40)
		w.whole(k)
	}
}

// Two pairs that are driven in turns do what they do alone.
func TestP14_7Apart(t *testing.T) {
	alone := func(seed int) []parcel {
		d := dice(seed)
		w := greeted(t, 5)
		w.keeps = true
		w.dials(1000)
		for range 40 {
			w.storm(&d, 50, true)
		}
		return w.crossed
	}
	one, other := alone(1), alone(2)
	d, e := dice(1), dice(2)
	v, w := greeted(t, 5), greeted(t, 5)
	v.keeps, w.keeps = true, true
	v.dials(1000)
	w.dials(1000)
	for range 40 {
		v.storm(&d, 50, true)
		w.storm(&e, 50, true)
	}
	same := func(a, b parcel) bool { return a.to == b.to && bytes.Equal(a.x, b.x) }
	if !slices.EqualFunc(v.crossed, one, same) || !slices.EqualFunc(w.crossed, other, same) {
		t.Fatal("they know of one another")
	}
	if len(one) < 100 || len(other) < 100 {
		t.Fatalf("%d and %d crossed", len(one), len(other))
	}
}

// Counts may be asked for while somebody else drives the box.
func TestP14_1CountMeanwhile(t *testing.T) {
	b, _ := box.New(api.BoxL, 0, 0)
	x := bytesOf(t, packet.Put, question(1000))
	asked := make(chan int)
	go func() {
		n := 0
		for range 1000 {
			n = max(n, b.Count().Passed)
		}
		asked <- n
	}()
	for range 1000 {
		b.Lan(x)
		b.Tick()
	}
	if n := <-asked; n > 1000 || b.Count().Passed != 1000 {
		t.Fatalf("%d, %+v", n, b.Count())
	}
}

// Whatever bytes come, a box goes on.
func TestP14_3AnyBytes(t *testing.T) {
	both(t, func(b *bench) {
		h := b.opens(1, 1000)
		d := dice(b.side)
		p := bytesOf(t, packet.Put, question(1000))
		for range 3000 {
			x := text(d.below(1000), d.below(80))
			if d.below(2) == 0 {
				x = bytes.Clone(p)
				x[d.below(len(x))] ^= byte(1 + d.below(255))
			}
			b.Lan(x)
			b.Wan(x)
		}
		b.nothing()
		b.writes(h, whole(1, 1))
		b.told(all(1, 1, whole(1, 1))...)
	})
}
