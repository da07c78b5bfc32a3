package world_test

import (
	"bytes"
	"testing"

	"flume/api"
	"flume/packet"
	"flume/record"
	"flume/tunnel"
)

// These are the document's examples of the whole that no test of a promise holds the program to.

// 1. The first question goes through as it is, with a probe; the second connection ends at both boxes.
func TestP4Example1(t *testing.T) {
	w := plays(t, 0)
	w.do(dial(0))
	w.calm(5)
	if e := w.End(right, 0); e.State != api.Established || len(w.Box(left).Flows())+len(w.Box(right).Flows()) != 0 {
		t.Fatal(e)
	}
	w.isUp()
	passed := [2]int{w.Box(left).Count().Passed, w.Box(right).Count().Passed}
	w.open(1)
	w.sends(left, 1, text(1, 3000))
	w.calm(5)
	w.whole(left, 1)
	for side := range 2 {
		b := w.Box(side)
		if l := b.Flows(); len(l) != 1 || l[0].ID != 1 || l[0].Port != 1001 || b.Count().Passed != passed[side] {
			t.Fatal(l, b.Count())
		}
	}
	w.sends(left, 0, text(1, 3000))
	w.calm(5)
	w.whole(left, 0)
	if n := w.Box(left).Count().Passed; n < passed[left]+20 {
		t.Fatal("the first connection is not handed on")
	}
}

// notes is what goes over the wide side just now.
func (w *play) notes() []api.Note {
	w.Helper()
	var l []api.Note
	for _, id := range w.Waiting() {
		_, b := w.peek(id)
		f, _ := tunnel.Get(b)
		if n, e := record.Get(f.Body); e == api.OK {
			l = append(l, n)
		}
	}
	return l
}

// 3. A reference whose chunk the other box has forgotten is asked for; what stands behind it waits.
func TestP6Example3(t *testing.T) {
	w := up(t, 0)
	w.open(0)
	x := text(1, 900)
	w.do(write(left, 0, x))
	w.calm(8)
	w.do(write(left, 0, x))
	for len(w.notes()) == 0 {
		w.do(take(w.Waiting()[0]))
	}
	w.do(evict(right, 0))
	for len(w.notes()) > 0 && w.notes()[0].Kind == api.NData {
		w.do(take(w.Waiting()[0]))
	}
	w.do(read(right, 0, 1024))
	w.do(tick())
	if n := len(w.stream(left, 0).Got); n != 900 {
		t.Fatalf("%d bytes were read", n)
	}
	missed := 0
	for range 200 {
		for _, n := range w.notes() {
			if n.Kind == api.NMiss {
				missed++
			}
			if n.Kind == api.NData && n.Index == 1 && n.Rec.Kind == api.RRef {
				t.Fatal("it comes by reference")
			}
		}
		if len(w.Waiting()) > 0 {
			w.do(take(w.Waiting()[0]))
		}
	}
	w.calm(8)
	w.whole(left, 0)
	if c := w.Box(right).Count(); c.Misses != 1 || missed == 0 || w.Box(left).Count().Broken != 0 {
		t.Fatal(c, missed)
	}
}

// 4. A box begins anew in the midst of a connection: both hosts are told that it is broken, none is told its end.
func TestP4Example4(t *testing.T) {
	for side := range 2 {
		w := up(t, 0)
		w.open(0)
		w.do(write(left, 0, text(1, 1000)))
		w.do(shut(left, 0))
		for range 9 {
			w.do(take(w.Waiting()[0]))
		}
		w.do(restart(side))
		w.calm(300)
		for host := range 2 {
			if x := w.stream(host, 0); !x.Broken || x.Fin {
				t.Fatalf("box %d: %d bytes, %v, %v", side, len(x.Got), x.Fin, x.Broken)
			}
		}
	}
}

// 5. A packet comes twice, late, in another order: it is read once, in its place.
func TestP1Example5(t *testing.T) {
	w := up(t, 0)
	w.open(0)
	x := text(1, 1024)
	w.do(write(left, 0, x))
	for n := range 400 {
		l := w.Waiting()
		if len(l) == 0 {
			break
		}
		id := l[len(l)-1] // what was posted last comes first
		if n < 60 {
			w.try(double(l[0]))
		}
		w.do(take(id))
	}
	w.calm(9)
	w.whole(left, 0)
	if x := w.stream(left, 0); len(x.Got) != 1024 {
		t.Fatal(len(x.Got))
	}
}

// 6. A byte of what is on its way is turned: it is as good as lost.
func TestP1Example6(t *testing.T) {
	spoilt, lost := plays(t, 0), plays(t, 0)
	d := dice(1)
	both := func(s api.Step) {
		t.Helper()
		if spoilt.try(s) != lost.try(s) {
			t.Fatalf("%+v", s)
		}
	}
	both(dial(0))
	for n := range 3000 {
		l := lost.Waiting()
		switch {
		case len(l) > 0 && d.below(12) == 0:
			spoilt.do(spoil(l[0], d.below(999), 1+d.below(255)))
			spoilt.do(take(l[0]))
			lost.do(lose(l[0]))
		case len(l) > 0 && n%8 > 0:
			both(take(l[0]))
		default:
			both(tick())
		}
		if n%50 == 0 {
			both(dial(n / 50 % 12))
			both(write(n/50%2, d.below(3), text(n, 300)))
			both(read(right, d.below(3), 300))
		}
		if n%500 == 0 && spoilt.all() != lost.all() {
			t.Fatal("it is another world")
		}
	}
	if spoilt.all() != lost.all() {
		t.Fatal("it is another world")
	}
}

// 8. Eight flows are open: the ninth connection is handed on.
func TestP5Example8(t *testing.T) {
	w := up(t, 0)
	w.calm(40)
	for conn := range 8 {
		w.open(conn)
	}
	passed := w.Box(left).Count().Passed
	w.do(dial(8))
	w.do(take(w.Waiting()[len(w.Waiting())-1]))
	l := w.Waiting()
	if p := w.packet(l[len(l)-1], toBoxRWide); p.Sport != 1008 || p.Flags != api.SYN || p.Probe != 0 {
		t.Fatal(p)
	}
	w.calm(5)
	w.sends(left, 8, text(1, 2000))
	w.calm(5)
	w.whole(left, 8)
	if c := w.Box(left).Count(); c.Passed < passed+10 || len(w.Box(left).Flows()) != 8 {
		t.Fatal(c)
	}
}

// 10. A host closes while the other one still writes: one end is told, the other direction goes on.
func TestP2Example10(t *testing.T) {
	for side := range 2 {
		w := up(t, 0)
		w.open(0)
		w.do(write(side, 0, []byte("a question")))
		w.do(shut(side, 0))
		w.calm(6)
		if x, y := w.stream(side, 0), w.stream(1-side, 0); string(x.Got) != "a question" || !x.Fin || y.Fin || y.Shut {
			t.Fatalf("%+v, %+v", x, y)
		}
		w.sends(1-side, 0, text(1, 3000))
		w.calm(60)
		if y := w.stream(1-side, 0); y.Fin || !bytes.Equal(y.Got, text(1, 3000)) {
			t.Fatal(len(y.Got))
		}
		w.do(shut(1-side, 0))
		w.calm(6)
		if y := w.stream(1-side, 0); !y.Fin || w.End(left, 0).State != api.Over || w.End(right, 0).State != api.Over {
			t.Fatal(w.End(left, 0), w.End(right, 0))
		}
	}
}

// A packet that is handed on is, on both sides of the boxes, the same but for the probe.
func TestP5HandedOn(t *testing.T) {
	w := plays(t, 0)
	w.bare = true
	w.do(probes(1))
	w.do(dial(0))
	seen := map[string]int{}
	for n := 0; n < 2000; n++ {
		l := w.Waiting()
		if len(l) == 0 {
			w.do(tick())
			w.do(read(right, 0, 1024))
			w.try(write(n/2%2, 0, text(n, 100)))
			continue
		}
		to, b := w.peek(l[0])
		if b, e := packet.Probed(b, 0); e == api.OK && to != toRight && to != toLeft {
			seen[string(b)]++
		} else if seen[string(b)] == 0 {
			t.Fatalf("% x comes from nowhere", b)
		}
		w.do(take(l[0]))
	}
	if len(seen) < 100 {
		t.Fatal(len(seen))
	}
}
