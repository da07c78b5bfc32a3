package world

import (
	"errors"

	"flume/api"
	"flume/packet"
	"flume/sums"
	"flume/tcp"
)

// Step does a step: why it came to nothing.
func (w *World) Step(s api.Step) api.Errno {
	if !w.made() {
		return api.ErrNil
	}
	if e := why(w.do(s)); e != api.OK {
		return e
	}
	w.postOut()
	return api.OK
}

// why is why a step came to nothing. An error may also be api.OK, which a box answers: as an error it is not nil, but it is no reason.
func why(err error) api.Errno {
	var e api.Errno
	if errors.As(err, &e) {
		return e
	}
	return api.OK
}

// do does a step by its kind.
func (w *World) do(s api.Step) error {
	switch s.Kind {
	case api.SDial, api.SWrite, api.SRead, api.SClose, api.SAbort:
		return w.doHost(s)
	case api.STick:
		w.tick()
	case api.STake, api.SLose, api.SDouble, api.SSpoil:
		return w.doWay(s)
	case api.SForge, api.SRestart, api.SEvict:
		return w.doBox(s)
	case api.SProbes:
		w.bare = s.N == 1
	default:
		return api.ErrStep
	}
	return nil
}

// doHost does a step of a host.
func (w *World) doHost(s api.Step) error {
	if !isSide(s.Side) || !isConn(s.Conn) {
		return api.ErrStep
	}
	x := &w.ends[s.Side][s.Conn]
	if s.Kind == api.SDial {
		return w.dial(x, s)
	}
	if x.conn == nil {
		return api.ErrStep
	}
	switch s.Kind {
	case api.SWrite:
		x.write(s.Data)
	case api.SRead:
		x.got = append(x.got, x.conn.Read(s.N)...)
	case api.SClose:
		x.conn.Close()
	case api.SAbort:
		x.conn.Abort()
	}
	return nil
}

// dial lets the left host ask for a connection.
func (w *World) dial(x *end, s api.Step) error {
	if x.conn != nil || s.Side != left {
		return api.ErrStep
	}
	c := tcp.Dial(api.Left, ports+s.Conn, api.Right, s.N, 0, w.firstNumber(asksFrom, s.Conn))
	if c == nil { // N is no port
		return api.ErrStep
	}
	x.conn = c
	return nil
}

// write writes what the endpoint takes, as long as it is not too much in all.
func (x *end) write(b []byte) {
	b = b[:min(len(b), api.MaxWrite-len(x.wrote))]
	n := x.conn.Write(b)
	x.wrote = append(x.wrote, b[:n]...)
}

// tick lets time pass, for all.
func (w *World) tick() {
	for side := range sides {
		for _, x := range w.ends[side] {
			x.conn.Tick()
		}
	}
	for _, b := range w.boxes {
		b.Tick()
	}
}

// doWay does a step of something that is on its way.
func (w *World) doWay(s api.Step) error {
	i := w.find(s.N)
	if i < 0 {
		return api.ErrStep
	}
	switch s.Kind {
	case api.STake:
		w.come(w.remove(i))
	case api.SLose:
		w.remove(i)
	case api.SDouble:
		return w.double(i)
	case api.SSpoil:
		return w.spoil(i, s.Place, s.Mask)
	}
	return nil
}

// doBox does a step of a box.
func (w *World) doBox(s api.Step) error {
	if !isSide(s.Side) {
		return api.ErrStep
	}
	switch s.Kind {
	case api.SForge:
		return w.forge(s.Side, s.Data)
	case api.SRestart:
		return w.restart(s.Side)
	}
	return w.boxes[s.Side].Evict(s.N)
}

// forge posts any bytes but a packet's to a box.
func (w *World) forge(side int, b []byte) error {
	if _, e := packet.Get(b); e == api.OK {
		return api.ErrStep
	}
	w.post([sides]int{toBoxLWide, toBoxRWide}[side], b)
	return nil
}

// restart lets a box begin anew.
func (w *World) restart(side int) error {
	if w.boots[side] >= api.MaxBoots {
		return api.ErrStep
	}
	w.boots[side]++
	w.boxes[side] = w.newBox(side)
	return nil
}

// come lets something come to whom it was posted.
func (w *World) come(p parcel) {
	b, e := sums.Open(p.sealed)
	if e != api.OK {
		return
	}
	switch p.to {
	case toLeft, toRight:
		w.comeHost(p.to, b)
	case toBoxL:
		w.boxes[left].Lan(b)
	case toBoxLWide:
		w.boxes[left].Wan(b)
	case toBoxRWide:
		w.boxes[right].Wan(w.unprobed(b))
	case toBoxR:
		w.boxes[right].Lan(b)
	}
}

// unprobed is bytes as they are after the wide side: a packet's may have lost their probe.
func (w *World) unprobed(b []byte) []byte {
	if w.bare {
		if x, e := packet.Probed(b, 0); e == api.OK {
			return x
		}
	}
	return b
}

// comeHost lets bytes come to a host.
func (w *World) comeHost(to int, b []byte) {
	p, e := packet.Get(b)
	if e != api.OK {
		return
	}
	taken, back := w.takeLeft, toBoxL
	if to == toRight {
		taken, back = w.takeRight, toBoxR
	}
	if taken(p) {
		return
	}
	if r, ok := packet.Refuse(p); ok {
		w.postPacket(back, r)
	}
}

// takeLeft lets the left host take a packet: whether it did.
func (w *World) takeLeft(p api.Packet) bool {
	conn := p.Dport - ports
	if !isConn(conn) || w.ends[left][conn].conn == nil {
		return false
	}
	w.ends[left][conn].conn.Take(p)
	return true
}

// takeRight lets the right host take a packet: whether it did.
func (w *World) takeRight(p api.Packet) bool {
	from := peer{p.Src, p.Sport}
	for _, x := range w.ends[right] {
		if x.conn != nil && x.peer == from {
			x.conn.Take(p)
			return true
		}
	}
	return w.accept(p, from)
}

// accept lets the right host have an end of a connection that is asked for: whether it has.
func (w *World) accept(p api.Packet, from peer) bool {
	conn := p.Sport - ports
	if p.Src == api.BoxR {
		conn = p.Origin - ports
	}
	if p.Dport != api.Served || !isConn(conn) || w.ends[right][conn].conn != nil {
		return false
	}
	c := tcp.Accept(p, w.firstNumber(servesFrom, conn))
	if c == nil { // it is no question
		return false
	}
	w.ends[right][conn] = end{conn: c, peer: from}
	return true
}

// postOut posts all that was put out.
func (w *World) postOut() {
	for side, to := range [sides]int{toBoxL, toBoxR} {
		for _, x := range w.ends[side] {
			for _, p := range x.conn.Out() {
				w.postPacket(to, p)
			}
		}
	}
	for side, to := range [sides][2]int{{toLeft, toBoxRWide}, {toRight, toBoxLWide}} {
		lan, wan := w.boxes[side].Out()
		w.postAll(to[0], lan)
		w.postAll(to[1], wan)
	}
}
