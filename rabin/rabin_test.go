package rabin_test

import (
	"bytes"
	"math"
	"math/bits"
	"sync"
	"testing"

	"flume/api"
	"flume/rabin"
)

// poly is the polynomial of the examples.
const poly = 0x80000009

// wide is a polynomial of 128 bits, the model's: the higher half and the lower one.
type wide struct{ high, low uint64 }

// bit is a coefficient.
func (w wide) bit(i int) uint64 {
	if i >= 64 {
		return w.high >> (i - 64) & 1
	}
	return w.low >> i & 1
}

// plus is the sum with x to the i times p.
func (w wide) plus(p uint64, i int) wide {
	if i >= 64 {
		return wide{w.high ^ p<<(i-64), w.low}
	}
	return wide{w.high ^ p>>(64-i), w.low ^ p<<i}
}

// product is a times b, term by term.
func product(a, b uint64) wide {
	var w wide
	for i := range 64 {
		if b>>i&1 == 1 {
			w = w.plus(a, i)
		}
	}
	return w
}

// deg is a degree, found from the top on.
func deg(p uint64) int {
	for i := 63; i >= 0; i-- {
		if p>>i&1 == 1 {
			return i
		}
	}
	return -1
}

// left is what is left by p, which isn't 0, found by long division.
func left(w wide, p uint64) uint64 {
	for i := 127; i >= deg(p); i-- {
		if w.bit(i) == 1 {
			w = w.plus(p, i-deg(p))
		}
	}
	return w.low
}

// divides tells whether a is a multiple of p.
func divides(p, a uint64) bool {
	if p == 0 {
		return a == 0
	}
	for n := bits.Len64(p); bits.Len64(a) >= n; {
		a ^= p << (bits.Len64(a) - n)
	}
	return a == 0
}

// prime tries all divisors of at most half the degree.
func prime(p uint64) bool {
	if deg(p) < 1 || deg(p) > 31 {
		return false
	}
	for q, end := uint64(2), uint64(2)<<(deg(p)/2); q < end; q++ {
		if divides(q, p) {
			return false
		}
	}
	return true
}

// chance is numbers that look like chance and are the same each time.
func chance(from uint64) func() uint64 {
	return func() uint64 {
		from = from*6364136223846793005 + 1442695040888963407
		z := (from ^ from>>31) * 0x9e3779b97f4a7c15
		return z ^ z>>29
	}
}

// some is polynomials of all degrees, the least and the greatest among them.
func some() []uint64 {
	out := []uint64{0, 1, 2, 3, 5, 7, 9, 11, 255, 256, poly, 1<<31 - 1, 1 << 31, 1<<32 - 1, 1 << 32, 1<<62 - 1, 1 << 62, 1<<63 - 1, 1 << 63, math.MaxUint64}
	next := chance(5)
	for i := range 64 {
		out = append(out, next()>>i)
	}
	return out
}

// few is polynomials for what takes three of them.
func few() []uint64 {
	out := []uint64{0, 1, 2, 3, 7, poly, 1 << 62, 1<<63 - 1, 1 << 63, math.MaxUint64}
	next := chance(6)
	for i := range 12 {
		out = append(out, next()>>(5*i))
	}
	return out
}

// table is that of a polynomial that has one.
func table(t *testing.T, p uint64) *rabin.Table {
	t.Helper()
	x, e := rabin.New(p)
	if e != api.OK || x == nil {
		t.Fatalf("New(%x): %v, %d", p, x, int(e))
	}
	return x
}

// printed is a fingerprint, found bit by bit.
func printed(b []byte, p uint64) uint64 {
	var f uint64
	for _, c := range b {
		for i := 7; i >= 0; i-- {
			f = f<<1 | uint64(c>>i&1)
			if f>>31 == 1 {
				f ^= p
			}
		}
	}
	return f
}

// text is so many bytes that look like chance.
func text(from uint64, n int) []byte {
	next := chance(from)
	b := make([]byte, n)
	for i := range b {
		b[i] = byte(next())
	}
	return b
}

// primes is some polynomials of the degree 31 that have a table.
func primes() []uint64 {
	return []uint64{poly, 0x80000009 ^ 0x6, 1<<31 | 1<<7 | 1<<0, 0x8000000000>>8 | 1<<13 | 1}
}

func TestP5_1Deg(t *testing.T) {
	for _, p := range some() {
		if n := rabin.Deg(p); n != deg(p) {
			t.Errorf("Deg(%x): %d, not %d", p, n, deg(p))
		}
	}
	for i := range 64 {
		if n := rabin.Deg(1 << i); n != i {
			t.Errorf("Deg(%x): %d", uint64(1)<<i, n)
		}
	}
	if n := rabin.Deg(0); n != -1 {
		t.Errorf("Deg(0): %d", n)
	}
}

func TestP5_1Mod(t *testing.T) {
	for _, a := range some() {
		if got := rabin.Mod(a, 0); got != a {
			t.Errorf("Mod(%x, 0): %x", a, got)
		}
		if got := rabin.Mod(a, 1); got != 0 {
			t.Errorf("Mod(%x, 1): %x", a, got)
		}
		for _, p := range some() {
			if p == 0 {
				continue
			}
			if got, want := rabin.Mod(a, p), left(wide{0, a}, p); got != want {
				t.Errorf("Mod(%x, %x): %x, not %x", a, p, got, want)
			}
		}
	}
	if got := rabin.Mod(9, 3); got != 0 {
		t.Errorf("Mod(9, 3): %x", got)
	}
}

func TestP5_1Mul(t *testing.T) {
	for _, p := range some() {
		for _, a := range few() {
			for _, b := range few() {
				want := uint64(0)
				if p != 0 && deg(p) <= 62 {
					want = left(product(a, b), p)
				}
				if got := rabin.Mul(a, b, p); got != want {
					t.Fatalf("Mul(%x, %x, %x): %x, not %x", a, b, p, got, want)
				}
			}
		}
	}
	if got := rabin.Mul(3, 3, 7); got != 2 {
		t.Errorf("Mul(3, 3, 7): %x", got)
	}
	if got := rabin.Mul(2, 1<<61, 1<<62|1); got != 1 {
		t.Errorf("by a polynomial of the degree 62: %x", got)
	}
	if got := rabin.Mul(1, 1, 1<<63); got != 0 {
		t.Errorf("by a polynomial of the degree 63: %x", got)
	}
}

func TestP5_1Gcd(t *testing.T) {
	for a := range uint64(64) {
		for b := range uint64(64) {
			want := a | b // one is 0: the other one
			if a != 0 && b != 0 {
				for q := min(a, b); ; q-- {
					if divides(q, a) && divides(q, b) {
						want = q
						break
					}
				}
			}
			if got := rabin.Gcd(a, b); got != want {
				t.Errorf("Gcd(%x, %x): %x, not %x", a, b, got, want)
			}
		}
	}
	for _, a := range some() {
		if rabin.Gcd(a, 0) != a || rabin.Gcd(0, a) != a || rabin.Gcd(a, a) != a || rabin.Gcd(a, 1) != 1 || rabin.Gcd(1, a) != 1 {
			t.Errorf("%x, and 0, itself and 1: %x, %x, %x, %x, %x", a, rabin.Gcd(a, 0), rabin.Gcd(0, a), rabin.Gcd(a, a), rabin.Gcd(a, 1), rabin.Gcd(1, a))
		}
	}
}

// There are as many prime polynomials of each degree as the theory tells.
func TestP5_1PrimeCounted(t *testing.T) {
	for n, want := range []int{0, 2, 1, 2, 3, 6, 9, 18, 30, 56, 99, 186, 335} {
		count := 0
		for p := uint64(1) << n; p < 2<<n; p++ {
			got := rabin.Prime(p)
			if got != prime(p) {
				t.Errorf("Prime(%x): %v", p, got)
			}
			if got {
				count++
			}
		}
		if count != want {
			t.Errorf("%d of the degree %d, not %d", count, n, want)
		}
	}
}

func TestP5_1PrimeOfHighDegrees(t *testing.T) {
	next := chance(7)
	for n := 13; n <= 31; n++ {
		for range 20 {
			p := uint64(1)<<n | next()>>(64-n) | 1
			if got := rabin.Prime(p); got != prime(p) {
				t.Errorf("Prime(%x): %v", p, got)
			}
		}
	}
	for _, p := range []uint64{1<<31 | 1<<3 | 1, 1<<15 | 1<<1 | 1, 1<<17 | 1<<3 | 1} {
		if !rabin.Prime(p) {
			t.Errorf("Prime(%x): false", p)
		}
	}
	// Squares, and products of two prime ones of about the same degree.
	for _, p := range []uint64{
		product(1<<15|1<<1|1, 1<<15|1<<1|1).low, product(1<<15|1<<1|1, 1<<15|1<<4|1).low,
		product(0x1002d, 1<<15|1<<1|1).low, product(1<<17|1<<3|1, 7).low, 1 << 31, 1<<31 | 1,
	} {
		if rabin.Prime(p) {
			t.Errorf("Prime(%x): true", p)
		}
	}
}

func TestP5_1PrimeOfOtherDegrees(t *testing.T) {
	for _, p := range []uint64{0, 1, 1 << 32, 1<<32 | 1<<7 | 1<<3 | 1<<2 | 1, 1<<33 | 1<<13 | 1, 1<<47 | 1<<5 | 1, 1<<63 | 1<<1 | 1, math.MaxUint64} {
		if rabin.Prime(p) {
			t.Errorf("Prime(%x): true", p)
		}
	}
}

func TestP5_2New(t *testing.T) {
	next := chance(8)
	good := 0
	for i := range 400 {
		p := uint64(1)<<31 | next()>>33 | 1
		if i%8 == 0 {
			p = next() >> (i % 64)
		}
		x, e := rabin.New(p)
		if deg(p) == 31 && prime(p) {
			good++
			if e != api.OK || x == nil || x.Poly() != p {
				t.Errorf("New(%x): %d", p, int(e))
			}
		} else if e != api.ErrPoly || x != nil {
			t.Errorf("New(%x): %v, %d", p, x, int(e))
		}
	}
	if good < 10 {
		t.Errorf("only %d were prime", good)
	}
	for _, p := range []uint64{0, 1, 2, 3, 7, 11, 1<<30 | 1<<1 | 1, 1<<17 | 1<<3 | 1, 1 << 31, 1<<31 | 1, 1<<32 | 1<<7 | 1<<3 | 1<<2 | 1, 1<<63 | poly, math.MaxUint64} {
		if x, e := rabin.New(p); e != api.ErrPoly || x != nil {
			t.Errorf("New(%x): %v, %d", p, x, int(e))
		}
	}
}

func TestP5_2Print(t *testing.T) {
	for _, p := range primes() {
		x := table(t, p)
		for n := range 80 {
			for _, b := range [][]byte{text(uint64(n), n), make([]byte, n), bytes.Repeat([]byte{255}, n), append(make([]byte, n), 1)} {
				if got, want := x.Print(b), printed(b, p); got != want {
					t.Fatalf("by %x, of %x: %x, not %x", p, b, got, want)
				}
			}
		}
		for i := range 256 {
			for _, b := range [][]byte{{byte(i)}, {byte(i), 0, 0, 0}, {byte(i), 1, 2, 3, 4}} {
				if got, want := x.Print(b), printed(b, p); got != want {
					t.Fatalf("by %x, of %x: %x, not %x", p, b, got, want)
				}
			}
		}
		if got := x.Print([]byte{0x80, 0, 0, 0}); got != p^1<<31 {
			t.Errorf("x to the 31 by %x: %x", p, got)
		}
		if x.Print(nil) != 0 || x.Print([]byte{}) != 0 {
			t.Error("of nothing")
		}
	}
	if got := table(t, poly).Print([]byte{1, 2}); got != 0x102 {
		t.Errorf("%x", got)
	}
}

func TestP5_2NoTable(t *testing.T) {
	for _, x := range []*rabin.Table{nil, {}} {
		if x.Poly() != 0 || x.Print([]byte{1, 2, 3, 4, 5}) != 0 || x.Print(nil) != 0 || x.Roll() != nil {
			t.Error("a table that New did not make")
		}
	}
}

func TestP5_3Next(t *testing.T) {
	for _, p := range primes() {
		x := table(t, p)
		r := x.Roll()
		b := append(make([]byte, 16), text(p, 600)...)
		b = append(b, bytes.Repeat([]byte{255, 0, 0, 0, 0, 0, 0, 0, 0, 0, 0, 0, 0, 0, 0, 0, 0}, 20)...)
		for i := 16; i < len(b); i++ {
			if got, want := r.Next(b[i]), printed(b[i-15:i+1], p); got != want {
				t.Fatalf("by %x, byte %d: %x, not %x", p, i-16, got, want)
			}
		}
	}
}

// A byte of any value goes out of the window and leaves nothing.
func TestP5_3Forgets(t *testing.T) {
	r := table(t, poly).Roll()
	for i := range 256 {
		r.Next(byte(i))
		for range 15 {
			if r.Next(0) == 0 && i != 0 {
				t.Fatalf("%d went too early", i)
			}
		}
		if f := r.Next(0); f != 0 {
			t.Fatalf("%d left %x", i, f)
		}
	}
}

func TestP5_3NoRoller(t *testing.T) {
	for _, r := range []*rabin.Roller{nil, {}} {
		for i := range 40 {
			if f := r.Next(byte(i)); f != 0 {
				t.Errorf("a roller that Roll did not make: %x", f)
			}
		}
	}
}

func TestP5_4Left(t *testing.T) {
	for _, p := range some() {
		if p == 0 {
			continue
		}
		for _, a := range some() {
			m := rabin.Mod(a, p)
			if deg(m) >= deg(p) || rabin.Mod(m, p) != m || !divides(p, a^m) {
				t.Fatalf("%x of %x by %x", m, a, p)
			}
			for _, b := range few() {
				if rabin.Mod(a^b, p) != m^rabin.Mod(b, p) {
					t.Fatalf("the sum of %x and %x by %x", a, b, p)
				}
			}
		}
	}
}

func TestP5_5Products(t *testing.T) {
	for _, p := range few() {
		for _, a := range few() {
			for _, b := range few() {
				ab := rabin.Mul(a, b, p)
				if ab != rabin.Mul(b, a, p) {
					t.Fatalf("%x and %x by %x: the other way round another one", a, b, p)
				}
				for _, c := range few() {
					if rabin.Mul(a, b^c, p) != ab^rabin.Mul(a, c, p) {
						t.Fatalf("%x times the sum of %x and %x by %x", a, b, c, p)
					}
				}
			}
		}
	}
}

func TestP5_6Shared(t *testing.T) {
	next := chance(10)
	for _, a := range some() {
		for _, b := range some() {
			if g := rabin.Gcd(a, b); !divides(g, a) || !divides(g, b) || g != rabin.Gcd(b, a) {
				t.Fatalf("Gcd(%x, %x): %x", a, b, g)
			}
		}
	}
	// What is put into both is in what they share.
	for i := range 500 {
		c := next() >> (34 + i%29)
		a, b := product(c, next()>>34).low, product(c, next()>>34).low
		if g := rabin.Gcd(a, b); !divides(c, g) || deg(g) < deg(c) && a|b != 0 {
			t.Fatalf("Gcd(%x, %x): %x, not a multiple of %x", a, b, g, c)
		}
	}
}

func TestP5_7Prime(t *testing.T) {
	next := chance(11)
	for _, p := range append(primes(), 2, 3, 7, 11, 1<<15|1<<1|1) {
		if !rabin.Prime(p) {
			t.Fatalf("Prime(%x): false", p)
		}
		for range 500 {
			a, b := next()>>(64-deg(p)), next()>>(64-deg(p))
			if a != 0 && b != 0 && rabin.Mul(a, b, p) == 0 {
				t.Fatalf("Mul(%x, %x, %x): 0", a, b, p)
			}
		}
	}
	for p := uint64(4); p < 512; p++ {
		zero := false
		for a := uint64(1); deg(a) < deg(p); a++ {
			for b := uint64(1); deg(b) < deg(p) && !zero; b++ {
				zero = rabin.Mul(a, b, p) == 0
			}
		}
		if rabin.Prime(p) == zero {
			t.Fatalf("Prime(%x): %v", p, !zero)
		}
	}
}

func TestP5_8Rolls(t *testing.T) {
	x := table(t, poly)
	for i := range 50 {
		r, s := x.Roll(), x.Roll()
		for _, c := range text(uint64(i), 3*i) {
			r.Next(c)
		}
		var f, g uint64
		for _, c := range text(uint64(i+1), 16) {
			f, g = r.Next(c), s.Next(c)
		}
		if f != g {
			t.Fatalf("behind %d bytes %x, not %x", 3*i, f, g)
		}
	}
}

// Rollers of one table, and tables of one polynomial, know nothing of one another, though they are used at once.
func TestObjectsApart(t *testing.T) {
	x := table(t, poly)
	b := text(3, 2000)
	var all sync.WaitGroup
	for i := range 8 {
		all.Go(func() {
			y, _ := rabin.New(poly)
			r, s := x.Roll(), y.Roll()
			for j := i; j < len(b); j++ {
				want := printed(b[max(i, j-15):j+1], poly)
				if f, g := r.Next(b[j]), s.Next(b[j]); f != want || g != want {
					t.Errorf("%x and %x, not %x", f, g, want)
					return
				}
			}
			if x.Print(b) != printed(b, poly) {
				t.Error("Print")
			}
		})
	}
	all.Wait()
}

func TestMemoryIsNew(t *testing.T) {
	whole := text(4, 40)
	before := bytes.Clone(whole)
	table(t, poly).Print(whole[:20])
	if !bytes.Equal(whole, before) {
		t.Error("Print changed what it was given")
	}
}
