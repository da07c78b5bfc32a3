package dedup_test

import (
	"bytes"
	"math"
	"slices"
	"testing"

	"flume/api"
	"flume/dedup"
	"flume/digest"
	"flume/record"
	"flume/store"
)

// dice throws numbers that look like chance and are the same each time.
type dice uint64

func (d *dice) below(n int) int {
	*d = *d*6364136223846793005 + 1442695040888963407
	return int(*d >> 33 % dice(n))
}

// room is a store that may be.
func room(t *testing.T, chunks, size int) *store.Store {
	t.Helper()
	s, e := store.New(chunks, size)
	if e != api.OK {
		t.Fatalf("store.New(%d, %d): %d", chunks, size, int(e))
	}
	return s
}

// text is a chunk; those of unlike numbers differ.
func text(n int) []byte {
	return []byte{byte(n), byte(n >> 8), 'x', 'y', 'z'}
}

// literal is the record of a chunk that has it in itself.
func literal(t *testing.T, chunk []byte) api.Record {
	t.Helper()
	r, e := record.Make(chunk, false)
	if e != api.OK {
		t.Fatalf("record.Make of %d bytes: %d", len(chunk), int(e))
	}
	return r
}

// reference is the one that has not.
func reference(chunk []byte) api.Record {
	return api.Record{Kind: api.RRef, Size: len(chunk), Sum: digest.Of(chunk)}
}

func same(a, b api.Record) bool {
	return a.Kind == b.Kind && a.Size == b.Size && a.Sum == b.Sum && bytes.Equal(a.Data, b.Data)
}

// answers asks whether errors are those that they should be.
func answers(t *testing.T, want api.Errno, got ...api.Errno) {
	t.Helper()
	for i, e := range got {
		if e != want {
			t.Fatalf("answer %d of %d: %d, not %d", i+1, len(got), int(e), int(want))
		}
	}
}

// adds adds a chunk, and asks for its number and its record's kind.
func adds(t *testing.T, e *dedup.Encoder, chunk []byte, index, kind int) api.Record {
	t.Helper()
	i, r, bad := e.Add(chunk)
	if i != index || bad != api.OK || r.Kind != kind || r.Size != len(chunk) || r.Sum != digest.Of(chunk) {
		t.Fatalf("Add: %d, %v, %d; not %d of the kind %d", i, r, int(bad), index, kind)
	}
	return r
}

// refuses adds a chunk that is refused.
func refuses(t *testing.T, e *dedup.Encoder, chunk []byte, want api.Errno) {
	t.Helper()
	sent, waiting := e.Sent(), e.Waiting()
	i, r, bad := e.Add(chunk)
	if i != 0 || !same(r, api.Record{}) || bad != want || e.Sent() != sent || e.Waiting() != waiting {
		t.Fatalf("Add: %d, %v, %d; not %d; %d and %d, ahead of it %d and %d", i, r, int(bad), int(want), e.Sent(), e.Waiting(), sent, waiting)
	}
}

// held is how often a store holds a chunk; it lets it go by that.
func held(s *store.Store, chunk []byte) (n int) {
	for s.Unpin(digest.Of(chunk)) == api.OK {
		n++
	}
	return n
}

// has asks a decoder for its counts, and for its next chunk (nil: there is none).
func has(t *testing.T, d *dedup.Decoder, done, held int, next []byte) {
	t.Helper()
	b, ok := d.Peek()
	if d.Done() != done || d.Held() != held || ok != (next != nil) || !bytes.Equal(b, next) {
		t.Fatalf("done %d, held %d, %v %v; not %d, %d, %v", d.Done(), d.Held(), b, ok, done, held, next)
	}
}

// pops hands a decoder's next chunk on.
func pops(t *testing.T, d *dedup.Decoder, want []byte) {
	t.Helper()
	if b, ok := d.Pop(); !ok || !bytes.Equal(b, want) {
		t.Fatalf("Pop: %v and %v, not %v", b, ok, want)
	}
}

func TestP11_1Example(t *testing.T) {
	e, d := dedup.NewEncoder(room(t, 4, 100)), dedup.NewDecoder(room(t, 4, 100))
	abc := []byte("abc")
	r := adds(t, e, abc, 1, api.RLit)
	k := adds(t, e, abc, 2, api.RRef)
	answers(t, api.OK, d.Take(1, r), d.Take(2, k))
	pops(t, d, abc)
	pops(t, d, abc)
	d = dedup.NewDecoder(room(t, 4, 100))
	answers(t, api.ErrMiss, d.Take(1, k))
	answers(t, api.ErrOrder, d.Take(3, r))
}

func TestP11_1New(t *testing.T) {
	for _, s := range []*store.Store{nil, {}} {
		if dedup.NewEncoder(s) != nil || dedup.NewDecoder(s) != nil {
			t.Error("there is one over no store")
		}
	}
	s := room(t, 1, 1)
	e, d := dedup.NewEncoder(s), dedup.NewDecoder(s)
	if e.Sent() != 0 || e.Waiting() != 0 {
		t.Error("an encoder does not begin with none")
	}
	has(t, d, 0, 0, nil)
	if b, ok := d.Pop(); b != nil || ok {
		t.Error("a decoder does not begin with none")
	}
}

// What NewEncoder did not make has nothing and does nothing.
func TestP11_1NoEncoder(t *testing.T) {
	for _, e := range []*dedup.Encoder{nil, {}, dedup.NewEncoder(nil)} {
		for range 2 {
			for _, chunk := range [][]byte{nil, text(1), make([]byte, 300)} {
				refuses(t, e, chunk, api.ErrNil)
			}
			r, bad := e.Miss(1)
			answers(t, api.ErrNil, bad, e.Done(0), e.Done(1), e.Done(-1))
			e.Close()
			if !same(r, api.Record{}) || e.Sent() != 0 || e.Waiting() != 0 {
				t.Error("there is something")
			}
		}
	}
}

// What can't be a chunk changes nothing, neither here nor in the store.
func TestP11_1Wrong(t *testing.T) {
	s := room(t, 9, 4000)
	e := dedup.NewEncoder(s)
	for _, n := range []int{0, 257, 258, 5000, 1 << 20} {
		refuses(t, e, make([]byte, n), api.ErrRecord)
	}
	if s.Len() != 0 {
		t.Fatalf("%d chunks in the store", s.Len())
	}
	adds(t, e, []byte{7}, 1, api.RLit)
	adds(t, e, make([]byte, 256), 2, api.RLz)
}

func TestP11_1Full(t *testing.T) {
	s := room(t, 20, 4000)
	e := dedup.NewEncoder(s)
	for i := 1; i <= 8; i++ {
		adds(t, e, text(i), i, api.RLit)
		if e.Sent() != i || e.Waiting() != i {
			t.Fatalf("%d records: %d made, %d wait", i, e.Sent(), e.Waiting())
		}
	}
	for _, chunk := range [][]byte{text(9), text(1), nil, make([]byte, 300)} {
		refuses(t, e, chunk, api.ErrFull)
	}
	if s.Len() != 8 || s.Has(digest.Of(text(9))) {
		t.Fatal("what was refused is in the store")
	}
	answers(t, api.OK, e.Done(1))
	adds(t, e, text(9), 9, api.RLit)
	refuses(t, e, text(10), api.ErrFull)
	answers(t, api.OK, e.Done(9))
	for i := 10; i <= 17; i++ {
		adds(t, e, text(i), i, api.RLit)
	}
	refuses(t, e, text(18), api.ErrFull)
}

// The record is that of a chunk that is known, if the store has its digest, whatever bytes that has, and whoever put it there.
func TestP11_1Record(t *testing.T) {
	long := bytes.Repeat([]byte("abcd"), 50)
	for _, chunk := range [][]byte{{0}, text(3), long} {
		s := room(t, 9, 4000)
		e := dedup.NewEncoder(s)
		_, r, _ := e.Add(chunk)
		if !same(r, literal(t, chunk)) {
			t.Errorf("Add of %v: %v", chunk, r)
		}
		if _, r, _ = e.Add(chunk); !same(r, reference(chunk)) {
			t.Errorf("Add of %v once more: %v", chunk, r)
		}
		answers(t, api.OK, s.Evict(digest.Of(chunk)))
		if _, r, _ = e.Add(chunk); !same(r, literal(t, chunk)) {
			t.Errorf("Add of %v, which went: %v", chunk, r)
		}
		for _, other := range [][]byte{chunk, nil, text(99)} {
			s = room(t, 9, 4000)
			answers(t, api.OK, s.Put(digest.Of(chunk), other))
			if _, r, _ = dedup.NewEncoder(s).Add(chunk); !same(r, reference(chunk)) {
				t.Errorf("Add of %v, which is there: %v", chunk, r)
			}
		}
	}
}

// What is added is put into the store, and is used by that.
func TestP11_1Put(t *testing.T) {
	s := room(t, 9, 4000)
	e := dedup.NewEncoder(s)
	for i, n := range []int{1, 2, 3, 2, 1} {
		e.Add(text(n))
		l := s.List()
		if b, bad := s.Get(digest.Of(text(n))); l[len(l)-1] != digest.Of(text(n)) || bad != api.OK || !bytes.Equal(b, text(n)) {
			t.Fatalf("chunk %d: %v and %d", i+1, b, int(bad))
		}
	}
	if s.Len() != 3 {
		t.Fatalf("%d chunks", s.Len())
	}
}

func TestP11_1Held(t *testing.T) {
	s := room(t, 9, 4000)
	e := dedup.NewEncoder(s)
	for i, n := range []int{1, 2, 1, 1, 2} {
		kind := api.RLit
		if i > 1 {
			kind = api.RRef
		}
		adds(t, e, text(n), i+1, kind)
	}
	answers(t, api.OK, e.Done(1), e.Done(1), e.Done(3))
	if e.Sent() != 5 || e.Waiting() != 2 {
		t.Fatalf("%d made, %d wait", e.Sent(), e.Waiting())
	}
	if a, b := held(s, text(1)), held(s, text(2)); a != 1 || b != 1 {
		t.Fatalf("held %d and %d times, not once each", a, b)
	}
	s = room(t, 9, 4000)
	e = dedup.NewEncoder(s)
	for range 3 {
		e.Add(text(1))
	}
	if n := held(s, text(1)); n != 3 {
		t.Fatalf("held %d times, not thrice", n)
	}
}

// A store without room holds nothing of what is added, and Done lets nothing go that somebody else holds.
func TestP11_1NoRoom(t *testing.T) {
	s := room(t, 1, 10)
	e := dedup.NewEncoder(s)
	answers(t, api.OK, s.Put(digest.Of(text(1)), text(1)), s.Pin(digest.Of(text(1))))
	adds(t, e, text(2), 1, api.RLit)
	adds(t, e, bytes.Repeat([]byte("abc"), 7), 2, api.RLz) // more than the store may have at all
	if s.Has(digest.Of(text(2))) || s.Len() != 1 {
		t.Fatal("there was room")
	}
	answers(t, api.OK, s.Unpin(digest.Of(text(1))), s.Put(digest.Of(text(2)), text(2)), s.Pin(digest.Of(text(2))))
	r, bad := e.Miss(1)
	answers(t, api.OK, bad, e.Done(2))
	if !same(r, literal(t, text(2))) {
		t.Fatal(r)
	}
	if n := held(s, text(2)); n != 1 {
		t.Fatalf("held %d times, not once", n)
	}
}

// What went out of the store while it was held is no error; what came there again was held, by the chapter's words, and is let go.
func TestP11_1Gone(t *testing.T) {
	s := room(t, 4, 100)
	e := dedup.NewEncoder(s)
	for i := 1; i <= 3; i++ {
		adds(t, e, text(i), i, api.RLit)
	}
	answers(t, api.OK, s.Evict(digest.Of(text(1))), s.Evict(digest.Of(text(2))), s.Put(digest.Of(text(2)), text(2)), s.Pin(digest.Of(text(2))), e.Done(2))
	if n := held(s, text(2)); n != 0 {
		t.Fatalf("held %d times", n)
	}
	s.Wipe()
	answers(t, api.OK, e.Done(3))
	if e.Waiting() != 0 || s.Len() != 0 {
		t.Fatal("something is left")
	}
}

func TestP11_1Miss(t *testing.T) {
	s := room(t, 20, 4000)
	e := dedup.NewEncoder(s)
	miss := func(wants ...int) {
		t.Helper()
		for _, i := range []int{math.MinInt, -1, 0, 1, 2, 3, 4, 5, 6, 7, 8, 9, 1 << 32, math.MaxInt} {
			r, bad := e.Miss(i)
			if slices.Contains(wants, i) {
				if bad != api.OK || !same(r, literal(t, text(i))) {
					t.Fatalf("Miss(%d): %v and %d", i, r, int(bad))
				}
			} else if bad != api.ErrMiss || !same(r, api.Record{}) {
				t.Fatalf("Miss(%d): %v and %d", i, r, int(bad))
			}
		}
	}
	miss()
	for i := range 6 {
		adds(t, e, text(i+1), i+1, api.RLit)
	}
	miss(1, 2, 3, 4, 5, 6)
	s.Wipe()
	miss(1, 2, 3, 4, 5, 6)
	if s.Len() != 0 {
		t.Fatal("Miss puts into the store")
	}
	answers(t, api.OK, e.Done(2))
	miss(3, 4, 5, 6)
	answers(t, api.OK, e.Done(5))
	miss(6)
	adds(t, e, text(7), 7, api.RLit)
	miss(6, 7)
	answers(t, api.OK, e.Done(7))
	miss()
}

func TestP11_1Done(t *testing.T) {
	s := room(t, 20, 4000)
	e := dedup.NewEncoder(s)
	answers(t, api.OK, e.Done(0))
	answers(t, api.ErrOrder, e.Done(1), e.Done(-1), e.Done(math.MaxInt), e.Done(math.MinInt))
	for i := range 5 {
		adds(t, e, text(i+1), i+1, api.RLit)
	}
	answers(t, api.ErrOrder, e.Done(6), e.Done(-1), e.Done(math.MaxInt), e.Done(math.MinInt))
	answers(t, api.OK, e.Done(0), e.Done(3), e.Done(3))
	if e.Sent() != 5 || e.Waiting() != 2 {
		t.Fatalf("%d made, %d wait", e.Sent(), e.Waiting())
	}
	answers(t, api.ErrOrder, e.Done(2), e.Done(0), e.Done(6), e.Done(math.MinInt))
	if e.Sent() != 5 || e.Waiting() != 2 {
		t.Fatalf("%d made, %d wait", e.Sent(), e.Waiting())
	}
	answers(t, api.OK, e.Done(5))
	if e.Sent() != 5 || e.Waiting() != 0 {
		t.Fatalf("%d made, %d wait", e.Sent(), e.Waiting())
	}
}

func TestP11_1Close(t *testing.T) {
	s := room(t, 20, 4000)
	e := dedup.NewEncoder(s)
	e.Close()
	for i := range 5 {
		adds(t, e, text(i+1), i+1, api.RLit)
	}
	answers(t, api.OK, e.Done(2))
	for range 2 {
		e.Close()
		if e.Sent() != 5 || e.Waiting() != 0 {
			t.Fatalf("%d made, %d wait", e.Sent(), e.Waiting())
		}
	}
	for i := range 5 {
		if n := held(s, text(i+1)); n != 0 {
			t.Fatalf("chunk %d is held %d times", i+1, n)
		}
	}
	adds(t, e, text(1), 6, api.RRef)
}

// turns is a decoder that handed on two chunks, has one, misses one, and has one more.
func turns(t *testing.T) *dedup.Decoder {
	t.Helper()
	d := dedup.NewDecoder(room(t, 20, 4000))
	for i := 1; i <= 3; i++ {
		answers(t, api.OK, d.Take(i, literal(t, text(i))))
	}
	pops(t, d, text(1))
	pops(t, d, text(2))
	answers(t, api.ErrMiss, d.Take(4, reference(text(4))))
	answers(t, api.OK, d.Take(5, literal(t, text(5))))
	has(t, d, 2, 3, text(3))
	return d
}

func TestP11_2Order(t *testing.T) {
	bad := []api.Record{{}, {Kind: 4, Size: 1}, {Kind: api.RRef, Size: 1, Data: text(1)}, {Kind: api.RLit, Size: 5, Data: text(1)}}
	for _, i := range []int{math.MinInt, -1 << 40, -1, 0, 7, 8, 1 << 40, math.MaxInt} {
		d := turns(t)
		answers(t, api.ErrOrder, d.Take(i, literal(t, text(6))), d.Take(i, reference(text(3))))
		for _, r := range bad {
			answers(t, api.ErrOrder, d.Take(i, r))
		}
		has(t, d, 2, 3, text(3))
	}
	// What was handed on, or is there with its chunk, is taken whatever it is.
	for _, i := range []int{1, 2, 3, 5} {
		d := turns(t)
		answers(t, api.OK, d.Take(i, literal(t, text(77))), d.Take(i, reference(text(78))))
		for _, r := range bad {
			answers(t, api.OK, d.Take(i, r))
		}
		has(t, d, 2, 3, text(3))
		answers(t, api.OK, d.Take(4, literal(t, text(4))))
		for j := 3; j <= 5; j++ {
			pops(t, d, text(j))
		}
	}
	d := turns(t)
	answers(t, api.OK, d.Take(6, literal(t, text(6))), d.Take(7, literal(t, text(7))))
	has(t, d, 2, 5, text(3))
}

// No more than eight wait, with their chunks or without.
func TestP11_2Eight(t *testing.T) {
	for _, miss := range []bool{false, true} {
		d := dedup.NewDecoder(room(t, 20, 4000))
		for i := 1; i <= 8; i++ {
			if miss {
				answers(t, api.ErrMiss, d.Take(i, reference(text(i))))
			} else {
				answers(t, api.OK, d.Take(i, literal(t, text(i))))
			}
			if d.Held() != i {
				t.Fatalf("%d records, not %d", d.Held(), i)
			}
		}
		answers(t, api.ErrOrder, d.Take(9, literal(t, text(9))), d.Take(9, reference(text(9))), d.Take(9, api.Record{}), d.Take(10, literal(t, text(9))))
		answers(t, api.OK, d.Take(1, literal(t, text(1))))
		pops(t, d, text(1))
		answers(t, api.OK, d.Take(9, literal(t, text(9))))
		answers(t, api.ErrOrder, d.Take(10, literal(t, text(9))))
		if d.Done() != 1 || d.Held() != 8 {
			t.Fatalf("%d and %d", d.Done(), d.Held())
		}
	}
}

// At record.Open's errors nothing is done, whether the record is new or misses its chunk.
func TestP11_2Wrong(t *testing.T) {
	good := literal(t, text(4))
	wrong := func(change func(r *api.Record)) api.Record {
		r := good
		change(&r)
		return r
	}
	for i, x := range []struct {
		r    api.Record
		want api.Errno
	}{
		{api.Record{}, api.ErrRecord},
		{wrong(func(r *api.Record) { r.Kind = 0 }), api.ErrRecord},
		{wrong(func(r *api.Record) { r.Kind = 4 }), api.ErrRecord},
		{wrong(func(r *api.Record) { r.Kind = api.RRef }), api.ErrRecord},
		{api.Record{Kind: api.RRef, Sum: good.Sum}, api.ErrRecord},
		{api.Record{Kind: api.RRef, Sum: good.Sum, Size: 257}, api.ErrRecord},
		{wrong(func(r *api.Record) { r.Size++ }), api.ErrRecord},
		{wrong(func(r *api.Record) { r.Kind = api.RLz }), api.ErrRecord},
		{wrong(func(r *api.Record) { r.Kind, r.Data = api.RLz, nil }), api.ErrRecord},
		{wrong(func(r *api.Record) { r.Data = text(5) }), api.ErrDigest},
		{wrong(func(r *api.Record) { r.Sum[31]++ }), api.ErrDigest},
	} {
		s := room(t, 20, 4000)
		d := dedup.NewDecoder(s)
		answers(t, x.want, d.Take(1, x.r))
		has(t, d, 0, 0, nil)
		answers(t, api.ErrMiss, d.Take(1, reference(text(4))))
		answers(t, x.want, d.Take(1, x.r), d.Take(2, x.r))
		has(t, d, 0, 1, nil)
		if s.Len() != 0 {
			t.Fatalf("record %d is in the store", i)
		}
		answers(t, api.OK, d.Take(1, good))
		has(t, d, 0, 1, text(4))
	}
}

// A reference is what the store has, if that is what is asked for; it is used by that.
func TestP11_2Reference(t *testing.T) {
	s := room(t, 20, 4000)
	d := dedup.NewDecoder(s)
	for i := 1; i <= 3; i++ {
		answers(t, api.OK, s.Put(digest.Of(text(i)), text(i)))
	}
	answers(t, api.OK, s.Put(digest.Of(text(4)), text(5)), s.Put(digest.Of(text(6)), []byte("other")[:4]), s.Put(digest.Of(text(7)), nil))
	answers(t, api.OK, d.Take(1, reference(text(2))), d.Take(2, reference(text(1))))
	if l := s.List(); l[4] != digest.Of(text(2)) || l[5] != digest.Of(text(1)) {
		t.Fatal("what a reference names is not used")
	}
	shorter := reference(text(3))
	shorter.Size--
	for _, r := range []api.Record{shorter, reference(text(4)), reference(text(6)), reference(text(7)), reference(text(8))} {
		answers(t, api.ErrMiss, d.Take(3, r))
		if d.Held() != 3 {
			t.Fatalf("%d records", d.Held())
		}
	}
	if s.Len() != 6 || s.Bytes() != 24 {
		t.Fatalf("%d chunks of %d bytes", s.Len(), s.Bytes())
	}
	answers(t, api.OK, d.Take(3, reference(text(3))))
	for _, n := range []int{2, 1, 3} {
		pops(t, d, text(n))
	}
}

// A record that misses its chunk is there; it is taken again by reference, when the store has the chunk, or as it is.
func TestP11_2Missed(t *testing.T) {
	s := room(t, 20, 4000)
	d := dedup.NewDecoder(s)
	for i := 1; i <= 3; i++ {
		for range 2 {
			answers(t, api.ErrMiss, d.Take(i, reference(text(i))))
			has(t, d, 0, i, nil)
		}
	}
	answers(t, api.OK, d.Take(2, literal(t, text(2))))
	has(t, d, 0, 3, nil)
	answers(t, api.OK, s.Put(digest.Of(text(1)), text(1)), d.Take(1, reference(text(1))))
	has(t, d, 0, 3, text(1))
	pops(t, d, text(1))
	pops(t, d, text(2))
	has(t, d, 2, 1, nil)
	if b, ok := d.Pop(); b != nil || ok {
		t.Fatal("what is not there was handed on")
	}
	has(t, d, 2, 1, nil)
	// It may be another one's chunk: the decoder knows no better.
	answers(t, api.OK, d.Take(3, literal(t, text(9))))
	pops(t, d, text(9))
}

// A chunk that came is put into the store, and is not held there; that there is no room is no error.
func TestP11_2Put(t *testing.T) {
	s := room(t, 2, 200)
	d := dedup.NewDecoder(s)
	long := bytes.Repeat([]byte("abcd"), 40)
	answers(t, api.OK, d.Take(1, literal(t, text(1))), d.Take(2, literal(t, long)))
	if b, e := s.Get(digest.Of(long)); e != api.OK || !bytes.Equal(b, long) || !s.Has(digest.Of(text(1))) {
		t.Fatalf("%v and %d", b, int(e))
	}
	answers(t, api.OK, d.Take(3, literal(t, text(1))))
	if l := s.List(); l[1] != digest.Of(text(1)) {
		t.Fatal("what came once more was not used")
	}
	answers(t, api.ErrPin, s.Unpin(digest.Of(text(1))), s.Unpin(digest.Of(long)))
	answers(t, api.OK, s.Pin(digest.Of(text(1))), s.Pin(digest.Of(long)), d.Take(4, literal(t, text(4))))
	if s.Has(digest.Of(text(4))) {
		t.Fatal("there was room")
	}
	for _, want := range [][]byte{text(1), long, text(1), text(4)} {
		pops(t, d, want)
	}
}

func TestP11_3Pop(t *testing.T) {
	d := turns(t)
	for range 3 {
		has(t, d, 2, 3, text(3))
	}
	pops(t, d, text(3))
	has(t, d, 3, 2, nil)
	if b, ok := d.Pop(); b != nil || ok {
		t.Fatalf("%v and %v", b, ok)
	}
	answers(t, api.OK, d.Take(4, literal(t, text(4))))
	pops(t, d, text(4))
	has(t, d, 4, 1, text(5))
	pops(t, d, text(5))
	has(t, d, 5, 0, nil)
	if b, ok := d.Pop(); b != nil || ok || d.Done() != 5 {
		t.Fatalf("%v and %v", b, ok)
	}
}

// What NewDecoder did not make has nothing and does nothing.
func TestP11_3NoDecoder(t *testing.T) {
	for _, d := range []*dedup.Decoder{nil, {}, dedup.NewDecoder(nil)} {
		for range 2 {
			answers(t, api.ErrNil, d.Take(1, literal(t, text(1))), d.Take(0, api.Record{}), d.Take(1, api.Record{}), d.Take(5, reference(text(1))))
			has(t, d, 0, 0, nil)
			if b, ok := d.Pop(); b != nil || ok {
				t.Error("there is something")
			}
		}
	}
}

// pair is an encoder and a decoder, with what went in and came out, and records on their way in between.
type pair struct {
	dice
	from, to *store.Store
	e        *dedup.Encoder
	d        *dedup.Decoder
	in, out  [][]byte
	way      []api.Record // behind those that were taken
	taken    int
	misses   int
}

func newPair(t *testing.T, seed int) *pair {
	p := &pair{dice: dice(seed)}
	p.from = room(t, 1+p.below(12), 1+p.below(600))
	p.to = room(t, 1+p.below(12), 1+p.below(600))
	p.e, p.d = dedup.NewEncoder(p.from), dedup.NewDecoder(p.to)
	return p
}

// chunk is one of few, so that many come again.
func (p *pair) chunk() []byte {
	n := p.below(15)
	if n < 3 {
		return bytes.Repeat([]byte{'a', byte(n)}, 1+40*n)
	}
	return text(n)
}

// forget lets some chunk go out of a store.
func (p *pair) forget(s *store.Store) {
	if l := s.List(); len(l) > 0 {
		s.Evict(l[p.below(len(l))])
	}
}

// step does one thing of those that there are.
func (p *pair) step(t *testing.T) {
	t.Helper()
	switch p.below(6) {
	case 0, 1:
		chunk := p.chunk()
		known := p.from.Has(digest.Of(chunk))
		i, r, bad := p.e.Add(chunk)
		if bad == api.ErrFull {
			return
		}
		p.in = append(p.in, chunk)
		p.way = append(p.way, r)
		if i != len(p.in) || bad != api.OK || known != (r.Kind == api.RRef) {
			t.Fatalf("Add: %d, %v, %d; known: %v", i, r, int(bad), known)
		}
	case 2:
		if len(p.way) > 0 {
			p.take(t)
		}
	case 3:
		p.pop()
	case 4:
		answers(t, api.OK, p.e.Done(p.d.Done()))
	case 5:
		if p.below(3) == 0 {
			p.forget(p.from)
		} else {
			p.forget(p.to)
		}
	}
}

// take takes the next record; if its chunk is not there, it asks for it.
func (p *pair) take(t *testing.T) {
	t.Helper()
	p.taken++
	e := p.d.Take(p.taken, p.way[0])
	if e == api.ErrOrder {
		p.taken--
		if p.d.Held() < 8 {
			t.Fatal("ErrOrder of the next record")
		}
		return
	}
	p.way = p.way[1:]
	if e != api.ErrMiss {
		answers(t, api.OK, e)
		return
	}
	p.misses++
	r, bad := p.e.Miss(p.taken)
	answers(t, api.OK, bad, p.d.Take(p.taken, r))
}

func (p *pair) pop() {
	if b, ok := p.d.Pop(); ok {
		p.out = append(p.out, b)
	}
}

// play lets many pairs go on; see is asked behind each step.
func play(t *testing.T, see func(p *pair)) (misses int) {
	t.Helper()
	for i := range 300 {
		p := newPair(t, i)
		for range 300 {
			p.step(t)
			see(p)
		}
		for len(p.out) < len(p.in) {
			if len(p.way) > 0 {
				p.take(t)
			}
			p.pop()
			see(p)
		}
		if !slices.EqualFunc(p.in, p.out, bytes.Equal) {
			t.Fatalf("pair %d: another thing came out", i)
		}
		misses += p.misses
	}
	return misses
}

func TestP11_4Through(t *testing.T) {
	misses := play(t, func(p *pair) {
		for i, b := range p.out {
			if !bytes.Equal(b, p.in[i]) {
				t.Fatalf("chunk %d is another one", i+1)
			}
		}
	})
	if misses == 0 {
		t.Error("nothing was ever missed")
	}
}

func TestP11_5Bounds(t *testing.T) {
	most := 0
	play(t, func(p *pair) {
		most = max(most, p.e.Waiting(), p.d.Held())
		kept := 0
		for i := p.e.Sent() - 20; i <= p.e.Sent()+20; i++ {
			if _, e := p.e.Miss(i); e == api.OK {
				kept++
			}
		}
		if most > 8 || kept > 8 || kept != p.e.Waiting() {
			t.Fatalf("%d are kept, %d wait, %d are held", kept, p.e.Waiting(), p.d.Held())
		}
	})
	if most != 8 {
		t.Errorf("at most %d", most)
	}
}

// A record that is there, and comes again, changes neither the decoder nor the store.
func TestP11_6Again(t *testing.T) {
	play(t, func(p *pair) {
		l, done, held := p.to.List(), p.d.Done(), p.d.Held()
		next, ok := p.d.Peek()
		for i := max(1, p.taken-9); i <= p.taken; i++ {
			for _, r := range []api.Record{literal(t, p.in[i-1]), reference(p.in[i-1]), {}} {
				answers(t, api.OK, p.d.Take(i, r))
			}
		}
		again, still := p.d.Peek()
		if !slices.Equal(l, p.to.List()) || done != p.d.Done() || held != p.d.Held() || ok != still || !bytes.Equal(next, again) {
			t.Fatal("something changed")
		}
	})
	// One that misses its chunk misses it again.
	d := turns(t)
	for range 3 {
		answers(t, api.ErrMiss, d.Take(4, reference(text(4))))
		has(t, d, 2, 3, text(3))
	}
}

func TestP11_7Less(t *testing.T) {
	s := room(t, 3, 100)
	e := dedup.NewEncoder(s)
	for i, x := range []struct{ n, kind int }{{1, api.RLit}, {2, api.RLit}, {1, api.RRef}, {3, api.RLit}, {2, api.RRef}, {3, api.RRef}, {4, api.RLit}} {
		answers(t, api.OK, e.Done(i))
		adds(t, e, text(x.n), i+1, x.kind)
	}
	adds(t, e, text(1), 8, api.RLit) // it rested longest, and went when 4 came
	// Two encoders over one store know of one another's chunks by that alone.
	other := dedup.NewEncoder(s)
	adds(t, other, text(4), 1, api.RRef)
	adds(t, other, text(2), 2, api.RLit)
}

func TestObjectsApart(t *testing.T) {
	s := room(t, 9, 100)
	e, other := dedup.NewEncoder(s), dedup.NewEncoder(s)
	d, more := dedup.NewDecoder(s), dedup.NewDecoder(s)
	adds(t, e, text(1), 1, api.RLit)
	answers(t, api.OK, d.Take(1, literal(t, text(1))))
	if other.Sent() != 0 || other.Waiting() != 0 {
		t.Error("another encoder knows of it")
	}
	answers(t, api.ErrOrder, other.Done(1))
	has(t, more, 0, 0, nil)
	answers(t, api.OK, e.Done(1))
	answers(t, api.ErrOrder, more.Take(2, literal(t, text(1))))
}

// What somebody copied is the same one.
func TestCopied(t *testing.T) {
	s := room(t, 9, 100)
	e, d := dedup.NewEncoder(s), dedup.NewDecoder(s)
	c, k := *e, *d
	adds(t, e, text(1), 1, api.RLit)
	adds(t, &c, text(2), 2, api.RLit)
	answers(t, api.OK, c.Done(1), d.Take(1, reference(text(1))), k.Take(2, reference(text(2))))
	if e.Waiting() != 1 {
		t.Errorf("%d wait", e.Waiting())
	}
	pops(t, &k, text(1))
	pops(t, d, text(2))
}

func TestMemoryIsNew(t *testing.T) {
	s := room(t, 9, 100)
	e, d := dedup.NewEncoder(s), dedup.NewDecoder(s)
	whole := append(text(1), "behind"...)
	given := whole[:5]
	_, r, _ := e.Add(given)
	if string(whole[5:]) != "behind" {
		t.Fatal("what stands behind was changed")
	}
	clear(whole)
	clear(r.Data[:cap(r.Data)])
	for range 2 {
		r, bad := e.Miss(1)
		if bad != api.OK || !same(r, literal(t, text(1))) {
			t.Fatalf("%v and %d: it is shared", r, int(bad))
		}
		clear(r.Data[:cap(r.Data)])
	}
	r = literal(t, text(2))
	answers(t, api.OK, d.Take(1, r), d.Take(2, r), d.Take(3, reference(text(2))), d.Take(4, reference(text(1))))
	clear(r.Data[:cap(r.Data)])
	for i, n := range []int{2, 2, 2, 1} {
		for range 2 {
			b, _ := d.Peek()
			if !bytes.Equal(b, text(n)) {
				t.Fatalf("chunk %d: %v: it is shared", i+1, b)
			}
			clear(b[:cap(b)])
		}
		b, _ := d.Pop()
		if !bytes.Equal(b, text(n)) {
			t.Fatalf("chunk %d: %v: it is shared", i+1, b)
		}
		clear(b[:cap(b)])
		if x, bad := s.Get(digest.Of(text(n))); bad != api.OK || !bytes.Equal(x, text(n)) {
			t.Fatalf("%v in the store: it is shared", x)
		}
	}
}
