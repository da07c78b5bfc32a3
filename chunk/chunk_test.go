package chunk_test

import (
	"bytes"
	"slices"
	"testing"

	"flume/api"
	"flume/chunk"
	"flume/rabin"
)

// poly is the polynomial of the examples.
const poly = 0x80000009

// table is that of a polynomial.
func table(t *testing.T, p uint64) *rabin.Table {
	t.Helper()
	x, e := rabin.New(p)
	if e != api.OK {
		t.Fatalf("New(%x): %d", p, int(e))
	}
	return x
}

// text is so many bytes that look like chance and are the same each time.
func text(from uint64, n int) []byte {
	b := make([]byte, n)
	for i := range b {
		from = from*6364136223846793005 + 1442695040888963407
		b[i] = byte(from >> 56)
	}
	return b
}

// printed is a fingerprint, found bit by bit.
func printed(b []byte, p uint64) uint64 {
	var f uint64
	for _, c := range b {
		for i := 7; i >= 0; i-- {
			f = f<<1 | uint64(c>>i&1)
			if f>>31 == 1 {
				f ^= p
			}
		}
	}
	return f
}

// plain cuts a stream by the chapter's words: the chunks, and what is pending.
func plain(b []byte, p uint64) (chunks [][]byte, pending []byte) {
	from := 0
	for i := range b {
		size := i + 1 - from
		if size == 256 || size >= 32 && printed(b[i-15:i+1], p)%64 == 63 {
			chunks = append(chunks, b[from:i+1])
			from = i + 1
		}
	}
	return chunks, b[from:]
}

// same tells whether two lists of chunks are one.
func same(a, b [][]byte) bool {
	return slices.EqualFunc(a, b, bytes.Equal)
}

// some is streams: like chance, with sizes from the least to the greatest, of one byte, and short ones.
func some() [][]byte {
	out := [][]byte{
		nil, {0}, {255}, make([]byte, 31), make([]byte, 32), make([]byte, 255), make([]byte, 256), make([]byte, 257), make([]byte, 600),
		bytes.Repeat([]byte{255}, 1000), bytes.Repeat([]byte("abc"), 500), bytes.Repeat(text(1, 100), 20), text(2, 60000),
	}
	for i := range 300 {
		out = append(out, text(uint64(i), i))
	}
	return out
}

// In the streams there is each size that a chunk may have at the edges.
func TestSizesAreTried(t *testing.T) {
	tried := map[int]int{}
	for _, b := range some() {
		chunks, _ := plain(b, poly)
		for _, c := range chunks {
			tried[len(c)]++
		}
	}
	for _, n := range []int{32, 33, 256} {
		if tried[n] == 0 {
			t.Errorf("no chunk has %d bytes", n)
		}
	}
}

func TestP6_1Write(t *testing.T) {
	for _, p := range []uint64{poly, 1<<31 | 1<<7 | 1} {
		for _, b := range some() {
			want, pending := plain(b, p)
			c := chunk.New(table(t, p))
			if got := c.Write(b); !same(got, want) {
				t.Fatalf("by %x, %d bytes: %d chunks, not %d, or other ones", p, len(b), len(got), len(want))
			}
			if n := c.Pending(); n != len(pending) {
				t.Fatalf("by %x, %d bytes: %d are pending, not %d", p, len(b), n, len(pending))
			}
			if got := c.Flush(); !bytes.Equal(got, pending) || c.Pending() != 0 {
				t.Fatalf("by %x, %d bytes: flushed %x, not %x, and %d are pending", p, len(b), got, pending, c.Pending())
			}
		}
	}
}

func TestP6_1Pending(t *testing.T) {
	c := chunk.New(table(t, poly))
	if c.Pending() != 0 {
		t.Error("a new cutter", c.Pending())
	}
	for i := range 255 {
		if l := c.Write([]byte{0}); len(l) != 0 || c.Pending() != i+1 {
			t.Fatal(i, len(l), c.Pending())
		}
	}
	if l := c.Write([]byte{0, 0, 0}); len(l) != 1 || len(l[0]) != 256 || c.Pending() != 2 {
		t.Fatal(len(l), c.Pending())
	}
}

// The first chunk that is told begins with what was pending.
func TestP6_1GoesOn(t *testing.T) {
	b := text(3, 3000)
	want, pending := plain(b, poly)
	c := chunk.New(table(t, poly))
	first := c.Write(b[:len(want[0])+20])
	if !same(first, want[:1]) || c.Pending() != 20 {
		t.Fatal(len(first), c.Pending())
	}
	if l := c.Write(b[len(want[0])+20:]); !same(l, want[1:]) || c.Pending() != len(pending) {
		t.Fatal(len(l), c.Pending())
	}
}

func TestP6_1Flush(t *testing.T) {
	x := table(t, poly)
	c := chunk.New(x)
	if b := c.Flush(); len(b) != 0 {
		t.Errorf("a new cutter: %x", b)
	}
	for i := range 300 {
		c.Write(text(uint64(i), i))
		c.Flush()
		if b := c.Flush(); len(b) != 0 || c.Pending() != 0 {
			t.Fatalf("flushed twice: %x", b)
		}
		b := text(uint64(i+1), 1000)
		want, pending := plain(b, poly)
		if l := c.Write(b); !same(l, want) {
			t.Fatalf("behind a flush of %d bytes it is cut in another way", i)
		}
		if b := c.Flush(); !bytes.Equal(b, pending) {
			t.Fatalf("%x, not %x", b, pending)
		}
	}
}

func TestP6_1All(t *testing.T) {
	x := table(t, poly)
	for _, b := range some() {
		want, pending := plain(b, poly)
		if len(pending) > 0 {
			want = append(want, pending)
		}
		if got := chunk.All(x, b); !same(got, want) {
			t.Fatalf("%d bytes: %d chunks, not %d, or other ones", len(b), len(got), len(want))
		}
	}
	var sizes []int
	for _, c := range chunk.All(x, make([]byte, 600)) {
		sizes = append(sizes, len(c))
	}
	if !slices.Equal(sizes, []int{256, 256, 88}) {
		t.Error(sizes)
	}
	if l := chunk.All(x, make([]byte, 512)); len(l) != 2 {
		t.Errorf("512 bytes 0: %d chunks", len(l))
	}
	if l := chunk.All(x, nil); len(l) != 0 {
		t.Errorf("nothing: %d chunks", len(l))
	}
}

func TestP6_1NoTable(t *testing.T) {
	for _, x := range []*rabin.Table{nil, {}} {
		if c := chunk.New(x); c != nil {
			t.Error("a cutter without a table")
		}
		if l := chunk.All(x, make([]byte, 600)); len(l) != 0 {
			t.Error("chunks without a table")
		}
	}
}

func TestP6_1NoCutter(t *testing.T) {
	for _, c := range []*chunk.Cutter{nil, {}} {
		for range 3 {
			if l := c.Write(make([]byte, 600)); len(l) != 0 || c.Pending() != 0 || len(c.Flush()) != 0 {
				t.Error("a cutter that New did not make")
			}
		}
	}
}

func TestP6_2Whole(t *testing.T) {
	x := table(t, poly)
	for _, b := range some() {
		c := chunk.New(x)
		l := c.Write(b)
		if whole := append(bytes.Join(l, nil), c.Flush()...); !bytes.Equal(whole, b) {
			t.Fatalf("%d bytes are another stream, cut", len(b))
		}
		if !bytes.Equal(bytes.Join(chunk.All(x, b), nil), b) {
			t.Fatalf("%d bytes are another stream, cut at once", len(b))
		}
	}
}

func TestP6_3Pieces(t *testing.T) {
	x := table(t, poly)
	b := text(5, 20000)
	want, pending := plain(b, poly)
	for _, size := range []int{1, 2, 3, 15, 16, 17, 31, 32, 33, 255, 256, 257, 1000, 19999} {
		c := chunk.New(x)
		var got [][]byte
		for piece := range slices.Chunk(b, size) {
			c.Write(nil)
			got = append(got, c.Write(piece)...)
		}
		if !same(got, want) || c.Pending() != len(pending) {
			t.Errorf("pieces of %d: other chunks", size)
		}
	}
}

func TestP6_4Sizes(t *testing.T) {
	x := table(t, poly)
	for _, b := range some() {
		c := chunk.New(x)
		for piece := range slices.Chunk(b, 100) {
			for _, l := range c.Write(piece) {
				if len(l) < 32 || len(l) > 256 {
					t.Fatalf("a chunk has %d bytes", len(l))
				}
			}
			if c.Pending() >= 256 {
				t.Fatalf("%d bytes are pending", c.Pending())
			}
		}
	}
}

func TestP6_5Alike(t *testing.T) {
	x := table(t, poly)
	b := text(6, 20000)
	all := chunk.All(x, b)
	at := 0
	for i, c := range all {
		if !same(chunk.All(x, b[at:]), all[i:]) {
			t.Fatalf("from chunk %d on another cut", i)
		}
		at += len(c)
	}
}

func TestP6_6FoundAgain(t *testing.T) {
	x := table(t, poly)
	shared := text(7, 5000)
	want := chunk.New(x).Write(shared)
	for i := range 40 {
		ahead := bytes.Join(chunk.New(x).Write(text(uint64(i), 1000+i)), nil)
		stream := slices.Concat(ahead, shared, text(uint64(i+100), 500))
		got := chunk.New(x).Write(stream)
		from := len(chunk.New(x).Write(ahead))
		if len(got) < from+len(want) || !same(got[from:from+len(want)], want) {
			t.Fatalf("behind %d bytes another cut", len(ahead))
		}
	}
}

// Cutters of one table know nothing of one another.
func TestObjectsApart(t *testing.T) {
	x := table(t, poly)
	a, b := text(8, 5000), text(9, 5000)
	c, d := chunk.New(x), chunk.New(x)
	var got, other [][]byte
	for i := range a {
		got = append(got, c.Write(a[i:i+1])...)
		other = append(other, d.Write(b[i:i+1])...)
	}
	want, pending := plain(a, poly)
	if !same(got, want) || c.Pending() != len(pending) {
		t.Error("one cutter")
	}
	if want, pending = plain(b, poly); !same(other, want) || d.Pending() != len(pending) {
		t.Error("the other one")
	}
}

func TestMemoryIsNew(t *testing.T) {
	x := table(t, poly)
	whole := text(10, 4000)
	before := bytes.Clone(whole)
	given := whole[:2000]
	want, pending := plain(bytes.Clone(given), poly)

	c := chunk.New(x)
	l := c.Write(given)
	n := c.Pending()
	clear(given)
	for _, b := range l {
		clear(append(b, make([]byte, cap(b)-len(b))...))
	}
	if c.Pending() != n || !bytes.Equal(c.Flush(), pending) {
		t.Error("the cutter shares what it was given, or what it told")
	}
	if !bytes.Equal(whole[2000:], before[2000:]) {
		t.Error("what stands behind the bytes was changed")
	}

	copy(given, before)
	l = chunk.All(x, given)
	for i := range l {
		clear(l[i][:cap(l[i])])
		if i+1 < len(want) && !bytes.Equal(l[i+1], want[i+1]) {
			t.Fatal("chunks share memory")
		}
	}
	if !bytes.Equal(whole, before) {
		t.Error("chunks share what was given")
	}

	c.Write([]byte("abc"))
	b := c.Flush()
	c.Write([]byte("xyz"))
	clear(b[:cap(b)])
	if b := c.Flush(); string(b) != "xyz" {
		t.Errorf("what was flushed is shared: %q", b)
	}
}
