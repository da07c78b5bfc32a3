package store_test

import (
	"bytes"
	"math"
	"slices"
	"testing"

	"flume/api"
	"flume/store"
)

// dice throws numbers that look like chance and are the same each time.
type dice uint64

func (d *dice) below(n int) int {
	*d = *d*6364136223846793005 + 1442695040888963407
	return int(*d >> 33 % dice(n))
}

// named is a digest; those of unlike numbers differ at the first byte or at the last one.
func named(n int) api.Sum {
	return api.Sum{0: byte(n / 2), 31: byte(n % 2)}
}

// filled is so many bytes.
func filled(n, with int) []byte {
	return bytes.Repeat([]byte{byte(with)}, n)
}

// made is a store that may be.
func made(t *testing.T, chunks, size int) *store.Store {
	t.Helper()
	s, e := store.New(chunks, size)
	if e != api.OK || s == nil {
		t.Fatalf("New(%d, %d): %v and %d", chunks, size, s, int(e))
	}
	return s
}

// put puts chunks of so many bytes under the numbers 1, 2, ..
func put(t *testing.T, s *store.Store, sizes ...int) {
	t.Helper()
	for i, n := range sizes {
		if e := s.Put(named(i+1), filled(n, i+1)); e != api.OK {
			t.Fatalf("Put of chunk %d: %d", i+1, int(e))
		}
	}
}

// list is the numbers of all chunks of a store, in their order.
func list(s *store.Store) []int {
	var l []int
	for _, x := range s.List() {
		l = append(l, 2*int(x[0])+int(x[31]))
	}
	return l
}

// wants asks whether just these chunks are there, in this order, and so many bytes.
func wants(t *testing.T, s *store.Store, size int, want ...int) {
	t.Helper()
	if got := list(s); !slices.Equal(got, want) || s.Len() != len(want) || s.Bytes() != size {
		t.Fatalf("chunks %v, %d of %d bytes; not %v of %d bytes", got, s.Len(), s.Bytes(), want, size)
	}
	for n := range 100 {
		if s.Has(named(n)) != slices.Contains(want, n) {
			t.Fatalf("%d is there: %v; there should be %v", n, s.Has(named(n)), want)
		}
	}
	if got := list(s); !slices.Equal(got, want) {
		t.Fatalf("chunks %v, not %v, when it was asked for them", got, want)
	}
}

// answers asks whether errors are those that they should be.
func answers(t *testing.T, want api.Errno, got ...api.Errno) {
	t.Helper()
	for i, e := range got {
		if e != want {
			t.Fatalf("answer %d of %d: %d, not %d", i+1, len(got), int(e), int(want))
		}
	}
}

func TestP9_1New(t *testing.T) {
	for _, chunks := range []int{math.MinInt, -1, 0, 1, 2, 63, 64, 65, 1 << 40, math.MaxInt} {
		for _, size := range []int{math.MinInt, -1, 0, 1, 2, 8191, 8192, 8193, 1 << 40, math.MaxInt} {
			s, e := store.New(chunks, size)
			if 1 <= chunks && chunks <= 64 && 1 <= size && size <= 8192 {
				if e != api.OK || !s.Made() {
					t.Errorf("New(%d, %d): %d, made: %v", chunks, size, int(e), s.Made())
				}
				wants(t, s, 0)
			} else if s != nil || e != api.ErrArg {
				t.Errorf("New(%d, %d): %v and %d", chunks, size, s, int(e))
			}
		}
	}
}

func TestP9_1Example(t *testing.T) {
	s := made(t, 2, 10)
	put(t, s, 2, 1)
	s.Get(named(1))
	answers(t, api.OK, s.Put(named(3), filled(1, 3)))
	wants(t, s, 3, 1, 3)
	answers(t, api.OK, s.Pin(named(1)), s.Put(named(4), filled(1, 4)))
	wants(t, s, 3, 1, 4)
	answers(t, api.ErrFull, s.Put(named(5), filled(11, 5)))
	wants(t, s, 3, 1, 4)
}

// What New did not make, and what there is not, has nothing and does nothing.
func TestP9_1NoStore(t *testing.T) {
	refused, _ := store.New(0, 1)
	for _, s := range []*store.Store{nil, {}, refused} {
		for range 2 {
			b, e := s.Get(named(1))
			answers(t, api.ErrNil, e, s.Put(named(1), filled(3, 1)), s.Put(named(2), filled(9000, 1)), s.Pin(named(1)), s.Unpin(named(1)), s.Evict(named(1)))
			s.Wipe()
			if b != nil || s.Has(named(1)) || s.Made() || s.Len() != 0 || s.Bytes() != 0 || s.List() != nil {
				t.Error("there is something")
			}
		}
	}
}

// A store of the greatest size holds what it may, to the last chunk and byte.
func TestP9_1Greatest(t *testing.T) {
	s := made(t, 64, 8192)
	var want []int
	for n := 1; n <= 64; n++ {
		answers(t, api.OK, s.Put(named(n), filled(128, n)))
		want = append(want, n)
		wants(t, s, 128*n, want...)
	}
	answers(t, api.OK, s.Put(named(65), nil))
	wants(t, s, 8192-128, append(want[1:], 65)...)
	answers(t, api.OK, s.Put(named(66), filled(8192, 1)))
	wants(t, s, 8192, 65, 66) // the one without bytes need not go
	answers(t, api.ErrFull, s.Put(named(67), filled(8193, 1)))
	wants(t, s, 8192, 65, 66)
}

// A digest that is there is used, whatever is put under it, however full the store is.
func TestP9_2PutAgain(t *testing.T) {
	s := made(t, 3, 6)
	put(t, s, 2, 2, 2)
	for _, data := range [][]byte{nil, filled(2, 1), filled(2, 99), filled(7, 99), filled(9000, 99)} {
		first := list(s)[0]
		answers(t, api.OK, s.Put(named(first), data))
		if l := list(s); l[2] != first {
			t.Fatalf("chunk %d was put again: %v", first, l)
		}
		b, e := s.Get(named(first))
		if e != api.OK || !bytes.Equal(b, filled(2, first)) {
			t.Fatalf("chunk %d was put again: %v and %d", first, b, int(e))
		}
	}
	for n := range 3 {
		answers(t, api.OK, s.Pin(named(n+1)))
	}
	first := list(s)[0]
	answers(t, api.OK, s.Put(named(first), filled(9000, 1)))
	if l := list(s); l[2] != first {
		t.Errorf("chunk %d was put again, held: %v", first, l)
	}
	answers(t, api.OK, s.Unpin(named(first)))
	answers(t, api.ErrPin, s.Unpin(named(first)))
}

// So many chunks are held as there may be, or so many bytes: there is no room, and nothing changes.
func TestP9_2Full(t *testing.T) {
	s := made(t, 2, 100)
	put(t, s, 1, 1)
	answers(t, api.OK, s.Pin(named(1)))
	answers(t, api.OK, s.Pin(named(2)))
	answers(t, api.ErrFull, s.Put(named(3), nil), s.Put(named(3), filled(1, 3)))
	wants(t, s, 2, 1, 2)
	answers(t, api.OK, s.Unpin(named(2)), s.Put(named(3), filled(99, 3)))
	wants(t, s, 100, 1, 3)

	s = made(t, 5, 10)
	put(t, s, 3, 2, 4)
	answers(t, api.OK, s.Pin(named(1)), s.Pin(named(3)))
	answers(t, api.ErrFull, s.Put(named(4), filled(4, 4)), s.Put(named(4), filled(5, 4)), s.Put(named(4), filled(9000, 4)))
	wants(t, s, 9, 1, 2, 3)
	answers(t, api.OK, s.Put(named(4), filled(3, 4)))
	wants(t, s, 10, 1, 3, 4)
	answers(t, api.OK, s.Pin(named(4)), s.Put(named(5), nil))
	answers(t, api.ErrFull, s.Put(named(6), filled(1, 6)))
	wants(t, s, 10, 1, 3, 4, 5)
}

// As many go as have to, one by one, and those that are held are left out.
func TestP9_2Goes(t *testing.T) {
	s := made(t, 6, 20)
	put(t, s, 4, 0, 3, 5, 2, 6)
	answers(t, api.OK, s.Pin(named(3)), s.Pin(named(5)))
	answers(t, api.OK, s.Put(named(7), nil)) // one too many
	wants(t, s, 16, 2, 3, 4, 5, 6, 7)
	answers(t, api.OK, s.Put(named(8), filled(4, 8))) // one too many, which has no bytes
	wants(t, s, 20, 3, 4, 5, 6, 7, 8)
	answers(t, api.OK, s.Put(named(9), filled(6, 9))) // one too many is enough no more
	wants(t, s, 15, 3, 5, 7, 8, 9)
	answers(t, api.OK, s.Put(named(10), filled(15, 10))) // all that is not held
	wants(t, s, 20, 3, 5, 10)
}

func TestP9_2Get(t *testing.T) {
	s := made(t, 4, 20)
	put(t, s, 5, 0, 3)
	for _, n := range []int{1, 2, 3, 1, 1, 3} {
		b, e := s.Get(named(n))
		if e != api.OK || !bytes.Equal(b, filled([]int{5, 0, 3}[n-1], n)) {
			t.Errorf("chunk %d: %v and %d", n, b, int(e))
		}
		if l := list(s); l[2] != n {
			t.Errorf("chunk %d was got: %v", n, l)
		}
	}
	wants(t, s, 8, 2, 1, 3)
	for _, n := range []int{0, 4, 50} {
		if b, e := s.Get(named(n)); b != nil || e != api.ErrChunk {
			t.Errorf("no chunk %d: %v and %d", n, b, int(e))
		}
	}
	wants(t, s, 8, 2, 1, 3)
}

// The zero digest is one like others.
func TestP9_2Zero(t *testing.T) {
	s := made(t, 2, 20)
	if b, e := s.Get(api.Sum{}); b != nil || e != api.ErrChunk || s.Has(api.Sum{}) {
		t.Errorf("%v and %d", b, int(e))
	}
	answers(t, api.ErrChunk, s.Pin(api.Sum{}), s.Unpin(api.Sum{}), s.Evict(api.Sum{}))
	answers(t, api.OK, s.Put(api.Sum{}, filled(3, 7)), s.Pin(api.Sum{}))
	if b, e := s.Get(api.Sum{}); !bytes.Equal(b, filled(3, 7)) || e != api.OK {
		t.Errorf("%v and %d", b, int(e))
	}
	wants(t, s, 3, 0)
	answers(t, api.OK, s.Evict(api.Sum{}))
	wants(t, s, 0)
}

// To hold a chunk, and to ask for it, is not to use it.
func TestP9_3Pin(t *testing.T) {
	s := made(t, 3, 20)
	put(t, s, 1, 1, 1)
	answers(t, api.ErrChunk, s.Pin(named(4)), s.Unpin(named(4)))
	answers(t, api.ErrPin, s.Unpin(named(1)), s.Unpin(named(2)))
	for range 3 {
		answers(t, api.OK, s.Pin(named(1)))
	}
	wants(t, s, 3, 1, 2, 3)
	answers(t, api.OK, s.Unpin(named(1)), s.Unpin(named(1)))
	wants(t, s, 3, 1, 2, 3)
	answers(t, api.OK, s.Put(named(4), nil))
	wants(t, s, 2, 1, 3, 4)
	answers(t, api.OK, s.Unpin(named(1)))
	answers(t, api.ErrPin, s.Unpin(named(1)))
	answers(t, api.OK, s.Put(named(5), nil))
	wants(t, s, 1, 3, 4, 5)
}

// A chunk that went, and one that came after it, is not held.
func TestP9_3Evict(t *testing.T) {
	s := made(t, 3, 20)
	put(t, s, 1, 2, 4)
	answers(t, api.ErrChunk, s.Evict(named(4)))
	answers(t, api.OK, s.Pin(named(2)), s.Pin(named(2)), s.Evict(named(2)))
	wants(t, s, 5, 1, 3)
	answers(t, api.ErrChunk, s.Evict(named(2)), s.Pin(named(2)), s.Unpin(named(2)))
	answers(t, api.OK, s.Put(named(2), filled(3, 9)))
	answers(t, api.ErrPin, s.Unpin(named(2)))
	wants(t, s, 8, 1, 3, 2)
	if b, e := s.Get(named(2)); e != api.OK || !bytes.Equal(b, filled(3, 9)) {
		t.Errorf("%v and %d", b, int(e))
	}
	answers(t, api.OK, s.Evict(named(1)), s.Evict(named(2)), s.Evict(named(3)))
	wants(t, s, 0)
	answers(t, api.ErrChunk, s.Evict(named(1)))
}

func TestP9_3Wipe(t *testing.T) {
	s := made(t, 3, 10)
	for range 3 {
		s.Wipe()
		wants(t, s, 0)
		put(t, s, 1, 2, 4)
		answers(t, api.OK, s.Pin(named(1)), s.Pin(named(2)), s.Pin(named(3)))
		answers(t, api.ErrFull, s.Put(named(4), nil))
		s.Wipe()
		wants(t, s, 0)
		answers(t, api.ErrChunk, s.Evict(named(1)), s.Pin(named(1)), s.Unpin(named(1)))
		put(t, s, 1, 1, 1)
		answers(t, api.ErrPin, s.Unpin(named(1)), s.Unpin(named(2)), s.Unpin(named(3)))
		answers(t, api.OK, s.Put(named(4), filled(8, 4)))
		wants(t, s, 10, 2, 3, 4)
	}
}

// plainChunk and plain are a store by the chapter's words.
type plainChunk struct {
	name, held int
	data       []byte
}

type plain struct {
	l            []plainChunk
	chunks, size int
}

func (p *plain) place(name int) int {
	return slices.IndexFunc(p.l, func(c plainChunk) bool { return c.name == name })
}

func (p *plain) names() (l []int) {
	for _, c := range p.l {
		l = append(l, c.name)
	}
	return l
}

func (p *plain) bytes() (n int) {
	for _, c := range p.l {
		n += len(c.data)
	}
	return n
}

func (p *plain) use(at int) {
	c := p.l[at]
	p.l = append(slices.Delete(p.l, at, at+1), c)
}

func (p *plain) put(name int, data []byte) api.Errno {
	if at := p.place(name); at >= 0 {
		p.use(at)
		return api.OK
	}
	held, size := 0, 0
	for _, c := range p.l {
		if c.held > 0 {
			held++
			size += len(c.data)
		}
	}
	if held >= p.chunks || size+len(data) > p.size {
		return api.ErrFull
	}
	for len(p.l) >= p.chunks || p.bytes()+len(data) > p.size {
		at := slices.IndexFunc(p.l, func(c plainChunk) bool { return c.held == 0 })
		p.l = slices.Delete(p.l, at, at+1)
	}
	p.l = append(p.l, plainChunk{name, 0, data})
	return api.OK
}

func (p *plain) get(name int) ([]byte, api.Errno) {
	at := p.place(name)
	if at < 0 {
		return nil, api.ErrChunk
	}
	p.use(at)
	return p.l[len(p.l)-1].data, api.OK
}

func (p *plain) pin(name, more int) api.Errno {
	at := p.place(name)
	if at < 0 {
		return api.ErrChunk
	}
	if p.l[at].held+more < 0 {
		return api.ErrPin
	}
	p.l[at].held += more
	return api.OK
}

func (p *plain) evict(name int) api.Errno {
	at := p.place(name)
	if at < 0 {
		return api.ErrChunk
	}
	p.l = slices.Delete(p.l, at, at+1)
	return api.OK
}

// step calls both stores alike, as the dice say, and asks whether they answer alike; put: what was put.
func step(t *testing.T, d *dice, s *store.Store, p *plain, names int) (put []byte) {
	t.Helper()
	name := d.below(names)
	what := d.below(100)
	switch {
	case what < 45:
		put = filled(d.below(2+p.size/(1+d.below(8))), d.below(256))
		answers(t, p.put(name, put), s.Put(named(name), put))
	case what < 60:
		got, e := s.Get(named(name))
		want, f := p.get(name)
		answers(t, f, e)
		if !bytes.Equal(got, want) {
			t.Fatalf("chunk %d: %v, not %v", name, got, want)
		}
	case what < 76:
		answers(t, p.pin(name, 1), s.Pin(named(name)))
	case what < 92:
		answers(t, p.pin(name, -1), s.Unpin(named(name)))
	case what < 99:
		answers(t, p.evict(name), s.Evict(named(name)))
	case d.below(5) == 0:
		p.l = nil
		s.Wipe()
	}
	return put
}

// play calls a store, and a plain one, alike; see is told what was there ahead of each call, what is there behind it, and what was put.
func play(t *testing.T, see func(p *plain, before []plainChunk, put []byte)) {
	t.Helper()
	for i := range 300 {
		d := dice(i)
		p := &plain{chunks: 1 + d.below(10), size: 1 + d.below(60)}
		if i%10 == 0 {
			p.chunks, p.size = 60+d.below(5), 8000+d.below(193)
		}
		s := made(t, p.chunks, p.size)
		for range 300 {
			before := slices.Clone(p.l)
			put := step(t, &d, s, p, 2+p.chunks+p.chunks/2)
			wants(t, s, p.bytes(), p.names()...)
			see(p, before, put)
		}
		for _, c := range slices.Clone(p.l) {
			if got, e := s.Get(named(c.name)); e != api.OK || !bytes.Equal(got, c.data) {
				t.Fatalf("chunk %d: %v and %d, not %v", c.name, got, int(e), c.data)
			}
		}
	}
}

// The bounds are asked of a store itself, whatever a plain one does.
func TestP9_4Bounds(t *testing.T) {
	for i := range 200 {
		d := dice(1000 + i)
		chunks, size := 1+d.below(8), 1+d.below(40)
		s := made(t, chunks, size)
		for range 300 {
			n := d.below(20)
			s.Put(named(n), filled(d.below(size+3), n))
			if d.below(3) == 0 {
				s.Pin(named(d.below(20)))
			}
			if d.below(2) == 0 {
				s.Unpin(named(d.below(20)))
			}
			total := 0
			for _, x := range s.List() {
				b, e := s.Get(x)
				answers(t, api.OK, e)
				total += len(b)
			}
			if s.Len() > chunks || len(s.List()) != s.Len() || s.Bytes() > size || s.Bytes() != total {
				t.Fatalf("%d chunks of %d bytes, %d told, of at most %d and %d", s.Len(), total, s.Bytes(), chunks, size)
			}
		}
	}
}

func TestP9_5Kept(t *testing.T) {
	play(t, func(p *plain, before []plainChunk, put []byte) {
		for _, c := range before {
			if c.held > 0 && put != nil && p.place(c.name) < 0 {
				t.Fatalf("chunk %d was held and went", c.name)
			}
		}
	})
	// Two chunks are held while many others come and go.
	s := made(t, 4, 40)
	put(t, s, 7, 9)
	answers(t, api.OK, s.Pin(named(1)), s.Pin(named(2)))
	for n := range 90 {
		answers(t, api.OK, s.Put(named(3+n), filled(n%24, n)))
		if !s.Has(named(1)) || !s.Has(named(2)) {
			t.Fatal("a chunk that is held went")
		}
	}
	for n := 1; n <= 2; n++ {
		if b, e := s.Get(named(n)); e != api.OK || !bytes.Equal(b, filled(5+2*n, n)) {
			t.Errorf("chunk %d: %v and %d", n, b, int(e))
		}
	}
}

func TestP9_6Order(t *testing.T) {
	s := made(t, 5, 100)
	put(t, s, 1, 1, 1, 1, 1)
	s.Get(named(2))
	s.Put(named(1), nil)
	s.Has(named(3))
	answers(t, api.OK, s.Pin(named(3)))
	wants(t, s, 5, 3, 4, 5, 2, 1)
	for i, want := range [][]int{{3, 5, 2, 1, 6}, {3, 2, 1, 6, 7}, {3, 1, 6, 7, 8}, {3, 6, 7, 8, 9}} {
		answers(t, api.OK, s.Put(named(6+i), filled(1, 0)))
		wants(t, s, 5, want...)
	}
	play(t, func(p *plain, before []plainChunk, put []byte) {
		for i, c := range before {
			if c.held > 0 || p.place(c.name) >= 0 || put == nil {
				continue
			}
			for _, x := range before[:i] {
				if x.held == 0 && p.place(x.name) >= 0 {
					t.Fatalf("chunk %d went, %d rested longer", c.name, x.name)
				}
			}
		}
	})
}

func TestP9_7JustSoMany(t *testing.T) {
	s := made(t, 4, 12)
	put(t, s, 3, 3, 3, 3) // all that there is room for
	wants(t, s, 12, 1, 2, 3, 4)
	answers(t, api.OK, s.Evict(named(2)), s.Put(named(5), filled(3, 5)))
	wants(t, s, 12, 1, 3, 4, 5)
	answers(t, api.OK, s.Put(named(6), filled(3, 6))) // one is enough
	wants(t, s, 12, 3, 4, 5, 6)
	answers(t, api.OK, s.Put(named(7), filled(4, 7))) // two are needed
	wants(t, s, 10, 5, 6, 7)
	answers(t, api.OK, s.Put(named(8), filled(2, 8)))
	wants(t, s, 12, 5, 6, 7, 8)
	play(t, func(p *plain, before []plainChunk, put []byte) {
		if put == nil || len(p.l) == 0 || len(before) < len(p.l) {
			return
		}
		// With the last one that went, there would be too many.
		var last *plainChunk
		for i, c := range before {
			if p.place(c.name) < 0 {
				last = &before[i]
			}
		}
		if last != nil && len(p.l) < p.chunks && p.bytes()+len(last.data) <= p.size {
			t.Fatalf("chunk %d went, though there is room", last.name)
		}
	})
}

// A store that somebody copied is the same one: whichever is called, neither panics nor has more than may be.
func TestCopied(t *testing.T) {
	s := made(t, 2, 10)
	put(t, s, 1)
	c := *s
	put(t, s, 1, 2)
	wants(t, &c, 3, 1, 2)
	answers(t, api.OK, c.Put(named(3), filled(9, 3)))
	wants(t, s, 9, 3)
	s.Wipe()
	wants(t, &c, 0)
}

func TestObjectsApart(t *testing.T) {
	s, other := made(t, 3, 10), made(t, 3, 10)
	put(t, s, 1, 2)
	wants(t, other, 0)
	put(t, other, 4, 4)
	answers(t, api.OK, s.Pin(named(1)))
	answers(t, api.ErrPin, other.Unpin(named(1)))
	other.Wipe()
	wants(t, s, 3, 1, 2)
	if b, e := s.Get(named(1)); e != api.OK || !bytes.Equal(b, filled(1, 1)) {
		t.Errorf("%v and %d", b, int(e))
	}
}

func TestMemoryIsNew(t *testing.T) {
	s := made(t, 3, 100)
	whole := filled(20, 5)
	given := whole[:9]
	answers(t, api.OK, s.Put(named(1), given), s.Put(named(2), given))
	if !bytes.Equal(whole, filled(20, 5)) {
		t.Fatal("what was given was changed")
	}
	clear(whole)
	for range 3 {
		for n := 1; n <= 2; n++ {
			b, e := s.Get(named(n))
			if e != api.OK || !bytes.Equal(b, filled(9, 5)) {
				t.Fatalf("chunk %d: %v and %d: it is shared", n, b, int(e))
			}
			clear(b[:cap(b)])
		}
		l := s.List()
		clear(l[:cap(l)])
		wants(t, s, 18, 1, 2)
	}
}
