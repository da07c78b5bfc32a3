package world_test

import (
	"testing"

	"flume/api"
	"flume/record"
	"flume/tunnel"
)

// weather is what may happen in a storm.
type weather struct {
	lossy, forges, restarts, evicts, aborts bool
}

var wild = weather{true, true, true, true, true}

// forged is bytes of somebody who does not know the boxes' numbers, but perhaps those of their first records.
func (w *play) forged(d *dice) []byte {
	w.Helper()
	strangers := []int{1 << 40, 1<<20 - 1, 5000 + d.below(1000000), 1 << 35, 0, 0}
	senders := []int{1, 2, 1<<20 + 1, 40<<20 + 1, 1 << 40, 1 << 35}
	f := api.Frame{Kind: 1 + d.below(3), From: senders[d.below(len(senders))], You: strangers[d.below(len(strangers))]}
	switch f.Kind {
	case api.FData:
		f.Seq = 1 + d.below(20)
		f.Body = bytesOf(w.T, record.Put, api.Note{Kind: api.NFin + d.below(2), Flow: 1 + d.below(9)})
	case api.FAck:
		f.Ack, f.Bits = d.below(99), d.below(1<<16)
	}
	b := bytesOf(w.T, tunnel.Put, f)
	switch d.below(6) {
	case 0:
		b[d.below(len(b))] ^= byte(1 + d.below(255))
	case 1:
		b = b[:d.below(len(b))]
	case 2:
		b = text(d.below(1000), d.below(100))
	}
	return b
}

// some is the number of something that is on its way, rather of what was posted long ago.
func (w *play) some(d *dice) int {
	l := w.Waiting()
	if len(l) == 0 {
		return 0
	}
	return l[min(d.below(len(l)), d.below(len(l)), d.below(len(l)))]
}

// storm lets chance do what it likes for a while.
func (w *play) storm(d *dice, steps int, may weather) {
	w.Helper()
	for range steps {
		conn, side := d.below(api.MaxConns), d.below(2)
		switch what := d.below(100); {
		case what < 50:
			w.try(take(w.some(d)))
		case what < 59 && may.lossy:
			w.mishap(d, what)
		case what < 61 && may.forges:
			w.try(forge(side, w.forged(d)))
		case what < 70:
			w.try(tick())
		case what < 80:
			w.try(write(side, conn, text(d.below(3), 700)[d.below(100):d.below(500)+100]))
		case what < 92:
			w.try(read(side, conn, d.below(500)))
		case what == 92 && may.evicts:
			w.try(evict(side, d.below(20)))
		default:
			w.rarely(d, what, side, conn, may)
		}
	}
}

// mishap lets something happen to what is on its way.
func (w *play) mishap(d *dice, what int) {
	switch {
	case what < 54:
		w.try(lose(w.some(d)))
	case what < 57:
		w.try(double(w.some(d)))
	default:
		w.try(spoil(w.some(d), d.below(1000)-500, d.below(1000)))
	}
}

// rarely does what is not done every day.
func (w *play) rarely(d *dice, what, side, conn int, may weather) {
	switch {
	case what == 93 && d.below(4) == 0:
		w.try(shut(side, conn))
	case what == 94 && may.restarts && d.below(20) == 0:
		w.try(restart(side))
	case what == 95 && d.below(2) == 0:
		w.try(dial(conn))
	case what == 96 && may.aborts && d.below(20) == 0:
		w.try(abort(side, conn))
	case what == 97 && may.lossy && d.below(10) == 0:
		w.try(probes(d.below(2)))
	case what == 98 && d.below(50) == 0:
		w.try(api.Step{Kind: api.SDial, Conn: conn, N: 81})
	case what == 99 && may.lossy && d.below(60) == 0:
		for range 70 {
			w.try(tick())
		}
	}
}

// free is a connection that no host has an end of; below 0: there is none.
func (w *play) free() int {
	for conn := range api.MaxConns {
		if w.End(left, conn) == (api.End{}) && w.End(right, conn) == (api.End{}) {
			return conn
		}
	}
	return -1
}

// comesThrough asks whether what is asked for now comes through whole.
func (w *play) comesThrough(conn int) {
	w.Helper()
	w.do(probes(0))
	w.open(conn)
	w.sends(left, conn, text(1, 2000))
	w.sends(right, conn, text(2, 2000))
	w.do(shut(left, conn))
	w.do(shut(right, conn))
	w.calm(20)
	w.whole(left, conn)
	w.whole(right, conn)
	w.isUp()
}

// storms is storms of all kinds, and what is asked for behind each one.
func storms(t *testing.T, seeds int, behind func(w *play)) {
	t.Helper()
	for seed := range seeds {
		d := dice(seed)
		may := weather{seed&1 == 0, seed&2 == 0, seed&4 == 0, seed&8 == 0, seed&16 == 0}
		w := plays(t, uint32(d.below(1<<31))*2)
		w.storm(&d, 300+d.below(1700), may)
		w.calm(d.below(20))
		w.storm(&d, d.below(500), may)
		behind(w)
	}
}
