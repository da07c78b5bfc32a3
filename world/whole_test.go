package world_test

import (
	"bytes"
	"testing"

	"flume/api"
	"flume/packet"
	"flume/record"
	"flume/tunnel"
)

// P1 and P2 are asked for behind each step of any test here; these storms are what they are most in need of.
func TestP1WasWritten(t *testing.T) {
	t.Parallel()
	n := 0
	storms(t, 32, func(w *play) {
		for _, x := range w.Streams() {
			n += len(x.Got)
		}
	})
	if n < 100000 {
		t.Fatalf("%d bytes were read", n)
	}
}

// Forged datagrams of somebody who does not know the boxes' numbers break nothing, and tell nothing.
func TestP1Forged(t *testing.T) {
	t.Parallel()
	w := up(t, 0)
	d := dice(1)
	x := text(1, 8000)
	for conn := range 3 {
		w.open(conn)
	}
	ends := func() (s [8]any) {
		for side := range 2 {
			me, you, epoch, up := w.Box(side).Ends()
			copy(s[4*side:], []any{me, you, epoch, up})
		}
		return s
	}
	before := ends()
	for range 100 {
		for conn := range 3 {
			for side := range 2 {
				n := len(w.stream(side, conn).Wrote)
				w.do(write(side, conn, x[n:min(n+100, len(x))]))
				w.do(forge(d.below(2), w.forged(&d)))
			}
		}
		w.calm(1)
	}
	w.calm(20)
	for conn := range 3 {
		w.whole(left, conn)
		w.whole(right, conn)
		if len(w.stream(left, conn).Got) != len(x) {
			t.Fatal("not all was written")
		}
	}
	if now := ends(); now != before {
		t.Fatalf("%v, not %v", now, before)
	}
	for side := range 2 {
		if c := w.Box(side).Count(); c.Broken != 0 {
			t.Fatalf("%+v", c)
		}
	}
}

// The end is told behind all bytes alone, however late they come; and never of what can't be whole.
func TestP2Honest(t *testing.T) {
	t.Parallel()
	fins, broken := 0, 0
	storms(t, 32, func(w *play) {
		for conn := range api.MaxConns {
			w.try(shut(left, conn))
			w.try(shut(right, conn))
		}
		w.calm(60)
		for _, x := range w.Streams() {
			if x.Fin {
				fins++
			}
			if x.Broken {
				broken++
			}
		}
	})
	if fins < 20 || broken < 20 {
		t.Fatalf("%d ended, %d are broken", fins, broken)
	}
}

func TestP2LateBytes(t *testing.T) {
	w := up(t, 0)
	w.open(0)
	w.carry()
	w.do(write(left, 0, text(1, 1000)))
	w.do(shut(left, 0))
	l := w.Waiting()
	for i := range l { // the end first
		w.do(take(l[len(l)-1-i]))
	}
	if w.stream(left, 0).Fin {
		t.Fatal("the end was told ahead of the bytes")
	}
	w.calm(9)
	if x := w.stream(left, 0); !x.Fin || !bytes.Equal(x.Got, text(1, 1000)) {
		t.Fatal(len(x.Got))
	}
}

func TestP3InTheEnd(t *testing.T) {
	t.Parallel()
	storms(t, 48, func(w *play) {
		w.calm(300)
		w.ended()
	})
}

// Time passes, and hosts read, but what comes in which order is chance.
func TestP3AnyOrder(t *testing.T) {
	t.Parallel()
	for seed := range 4 {
		d := dice(seed)
		w := plays(t, 0)
		w.storm(&d, 1000, wild)
		for range 300 {
			for range 2 * len(w.Waiting()) {
				l := w.Waiting()
				if len(l) == 0 {
					break
				}
				w.do(take(l[d.below(len(l))]))
			}
			for conn := range api.MaxConns {
				w.try(read(left, conn, 300))
				w.try(read(right, conn, 300))
			}
			w.do(tick())
		}
		w.ended()
	}
}

func TestP4Again(t *testing.T) {
	t.Parallel()
	for seed := range 24 {
		d := dice(seed)
		side := seed % 2
		w := up(t, uint32(seed))
		w.open(0)
		w.open(1)
		w.do(write(left, 0, text(1, 1000)))
		w.do(write(right, 0, text(2, 1000)))
		w.do(write(left, 1, text(1, 900)))
		w.do(shut(left, 1))
		w.storm(&d, d.below(200), weather{lossy: true})
		var had []int
		for _, f := range w.Box(side).Flows() {
			if conn := f.Port - 1000; w.End(left, conn).State == api.Established {
				had = append(had, conn)
			}
		}
		w.do(restart(side))
		if seed%3 == 0 {
			w.do(restart(1 - side))
		}
		w.calm(300)
		w.ended()
		for _, conn := range had {
			for host := range 2 {
				if x := w.stream(1-host, conn); !x.Broken && !x.Fin {
					t.Fatalf("seed %d: of connection %d side %d was told nothing: %+v", seed, conn, host, w.End(host, conn))
				}
			}
		}
		conn := w.free()
		w.do(probes(0))
		w.open(conn)
		w.isUp()
		w.comesThrough(w.free())
	}
}

// The boxes find one another with the next question, and what is asked for then ends at both.
func TestP4NextQuestion(t *testing.T) {
	for side := range 2 {
		w := up(t, 0)
		for n := range 10 {
			w.do(restart(side))
			w.do(dial(n))
			w.carry()
			w.isUp()
			w.calm(40) // broken flows have their rest
		}
		w.comesThrough(10)
		if c := w.Box(right).Count(); c.Literals == 0 {
			t.Fatal("it was handed on")
		}
	}
}

func TestP4AfterStorms(t *testing.T) {
	t.Parallel()
	n := 0
	storms(t, 16, func(w *play) {
		w.calm(300)
		if conn := w.free(); conn >= 0 {
			w.comesThrough(conn)
			n++
		}
	})
	if n < 4 {
		t.Fatalf("%d came through", n)
	}
}

// Where more connections are asked for than may be flows, the others are handed on; all of them come through.
func TestP5Flows(t *testing.T) {
	t.Parallel()
	w := up(t, 0)
	w.calm(40)
	for conn := range 11 {
		w.do(dial(conn))
	}
	w.calm(5)
	if l, r := w.Box(left).Flows(), w.Box(right).Flows(); len(l) != api.MaxFlows || len(r) != api.MaxFlows {
		t.Fatal(l, r)
	}
	for conn := range 11 {
		w.sends(left, conn, text(conn, 3000))
		w.sends(right, conn, text(conn+20, 3000))
		w.do(shut(left, conn))
		w.do(shut(right, conn))
	}
	w.calm(60)
	for conn := range 11 {
		w.whole(left, conn)
		w.whole(right, conn)
	}
	if len(w.Box(left).Flows())+len(w.Box(right).Flows()) != 0 {
		t.Fatal("flows are left")
	}
}

// Where probes never arrive, and nothing is forged, no session begins, whatever else happens.
func TestP5Bare(t *testing.T) {
	t.Parallel()
	for seed := range 8 {
		d := dice(seed)
		w := plays(t, 0)
		w.bare = true
		w.do(probes(1))
		for range 200 {
			w.storm(&d, 5, weather{restarts: true, evicts: true})
			for range d.below(3) {
				w.mishap(&d, 50+d.below(9))
			}
		}
		w.calm(300)
		w.ended()
	}
}

func TestP5BareWhole(t *testing.T) {
	w := plays(t, 0)
	w.bare = true
	w.do(probes(1))
	for conn := range 4 {
		w.open(conn)
		w.sends(left, conn, text(conn, 4000))
		w.sends(right, conn, text(conn+9, 4000))
		w.do(shut(left, conn))
		w.do(shut(right, conn))
		w.calm(9)
		w.whole(left, conn)
		w.whole(right, conn)
	}
	if c := w.Box(left).Count(); c.Passed < 100 || c != (api.Count{Passed: c.Passed}) {
		t.Fatalf("%+v", c)
	}
}

// crossed is the records that go over the wide side while something is done in calm, by their kinds.
func (w *play) crossed(ticks int) (kinds [4]int) {
	w.Helper()
	for range ticks {
		for len(w.Waiting()) > 0 {
			id := w.Waiting()[0]
			if to, b := w.peek(id); to == toBoxLWide || to == toBoxRWide {
				f, _ := tunnel.Get(b)
				n, _ := record.Get(f.Body)
				kinds[n.Rec.Kind]++
				if _, e := packet.Get(b); e == api.OK {
					w.Fatal("a packet was handed on")
				}
			}
			w.do(take(id))
		}
		for conn := range api.MaxConns {
			w.try(read(left, conn, 700))
			w.try(read(right, conn, 700))
		}
		w.do(tick())
	}
	return kinds
}

// A text that went through goes as references alone when it comes again: on that connection or on another one, either way.
func TestP6References(t *testing.T) {
	for i, size := range []int{1, 2, 31, 32, 33, 255, 256, 257, 512, 600, 999, 1000} {
		w := up(t, 0)
		w.open(0)
		w.open(1)
		x := text(100+i, size)
		if i%3 == 0 {
			x = bytes.Repeat([]byte("a"), size)
		}
		w.do(write(i%2, 0, x))
		if k := w.crossed(12); k[api.RLit]+k[api.RLz] == 0 {
			t.Fatal(size, k)
		}
		for n, s := range []api.Step{write(i%2, 0, x), write(1-i%2, 0, x), write(left, 1, x), write(right, 1, x)} {
			w.do(s)
			k := w.crossed(12)
			if k[api.RLit]+k[api.RLz] != 0 || k[api.RRef] == 0 {
				t.Fatalf("%d bytes, time %d: %v", size, n, k)
			}
		}
		for conn := range 2 {
			w.whole(left, conn)
			w.whole(right, conn)
		}
		if c := w.Box(left).Count(); c.Misses+c.Broken != 0 {
			t.Fatalf("%+v", c)
		}
	}
}

// Whatever chunks boxes forget, nothing is broken by that.
func TestP6Forgetting(t *testing.T) {
	t.Parallel()
	misses := 0
	for seed := range 6 {
		d := dice(seed)
		w := up(t, 0)
		w.calm(40)
		for conn := range 3 {
			w.open(conn)
		}
		for n := range 80 {
			for conn := range 3 {
				w.do(write(d.below(2), conn, text(d.below(4), 120)))
			}
			for range 40 {
				w.try(take(w.some(&d)))
				w.try(evict(d.below(2), d.below(6)))
			}
			for side := range 2 {
				for n%5 == seed%5 && len(w.Box(side).Chunks()) > 0 {
					w.do(evict(side, 0))
				}
			}
			w.calm(n % 2)
		}
		w.calm(60)
		for side := range 2 {
			for conn := range 3 {
				w.whole(side, conn)
				if len(w.stream(side, conn).Got) < 3000 {
					t.Fatal("too little was written")
				}
			}
			c := w.Box(side).Count()
			if c.Broken != 0 {
				t.Fatalf("%+v", c)
			}
			misses += c.Misses
		}
	}
	if misses < 20 {
		t.Fatalf("%d were missed", misses)
	}
}
