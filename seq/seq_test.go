package seq_test

import (
	"math"
	"math/big"
	"slices"
	"testing"

	"flume/api"
	"flume/seq"
)

const (
	top  = 1<<32 - 1
	half = 1 << 31
)

// places is numbers about which going round may go wrong.
var places = []uint32{
	0, 1, 2, 5, 1 << 16, 1 << 30, 1<<30 + 1, half - 2, half - 1, half, half + 1, half + 2,
	3 << 30, 3<<30 + 1, top - 5, top - 1, top, 0x12345678, 0x92345678, 0xdeadbeef,
}

// steps is how far one may go, of any size.
var steps = []int{
	0, 1, -1, 2, -2, 7, -7, 1 << 16, -1 << 16, half - 1, half, half + 1, -half, -half - 1, -half + 1,
	top, top + 1, top + 2, -top, -top - 1, -top - 2, 5<<32 + 3, -5<<32 - 3, 1 << 62,
	math.MaxInt, math.MaxInt - 1, math.MinInt, math.MinInt + 1,
}

// rest is a number modulo 2^32, reckoned without any going round.
func rest(n *big.Int) uint32 {
	return uint32(new(big.Int).Mod(n, big.NewInt(1<<32)).Uint64())
}

// behind is how far a stands behind b, as the chapter tells it.
func behind(a, b uint32) int {
	d := int(a) - int(b)
	for d < -half {
		d += 1 << 32
	}
	for d >= half {
		d -= 1 << 32
	}
	return d
}

// chance is numbers that look like chance and are the same each time.
func chance(from uint64) func() uint32 {
	return func() uint32 {
		from = from*6364136223846793005 + 1442695040888963407
		return uint32(from >> 32)
	}
}

func TestP3_1Add(t *testing.T) {
	for _, x := range []struct {
		a    uint32
		n    int
		want uint32
	}{
		{0, 0, 0},
		{5, 7, 12},
		{top, 1, 0},
		{top, 3, 2},
		{1, -3, top - 1},
		{0, -1, top},
		{7, 1 << 32, 7},
		{7, -1 << 32, 7},
		{7, 1<<32 + 1, 8},
		{0, math.MaxInt, top},
		{9, math.MinInt, 9},
		{half, half, 0},
	} {
		if got := seq.Add(x.a, x.n); got != x.want {
			t.Errorf("Add(%d, %d): %d, not %d", x.a, x.n, got, x.want)
		}
	}
	for _, a := range places {
		for _, n := range steps {
			want := rest(new(big.Int).Add(big.NewInt(int64(a)), big.NewInt(int64(n))))
			if got := seq.Add(a, n); got != want {
				t.Errorf("Add(%d, %d): %d, not %d", a, n, got, want)
			}
		}
	}
}

func TestP3_1Diff(t *testing.T) {
	for _, x := range []struct {
		a, b uint32
		want int
	}{
		{1, top, 2},
		{top, 1, -2},
		{5, 5, 0},
		{9, 5, 4},
		{5, 9, -4},
		{half - 1, 0, half - 1},
		{half, 0, -half},
		{0, half, -half},
		{half + 1, 0, -half + 1},
		{0, half + 1, half - 1},
		{top, 0, -1},
		{0, top, 1},
	} {
		if got := seq.Diff(x.a, x.b); got != x.want {
			t.Errorf("Diff(%d, %d): %d, not %d", x.a, x.b, got, x.want)
		}
	}
	for _, a := range places {
		for _, b := range places {
			if got, want := seq.Diff(a, b), behind(a, b); got != want {
				t.Errorf("Diff(%d, %d): %d, not %d", a, b, got, want)
			}
		}
	}
}

func TestP3_1Less(t *testing.T) {
	for _, x := range []struct {
		a, b uint32
		want bool
	}{
		{top, 0, true},
		{0, top, false},
		{5, 5, false},
		{5, 6, true},
		{6, 5, false},
		{0, half - 1, true},
		{half - 1, 0, false},
		{0, half + 1, false},
		{half + 1, 0, true},
		{0, half, true},
		{half, 0, true},
		{7, half + 7, true},
	} {
		if got := seq.Less(x.a, x.b); got != x.want {
			t.Errorf("Less(%d, %d): %v", x.a, x.b, got)
		}
	}
	for _, a := range places {
		for _, b := range places {
			if got, want := seq.Less(a, b), behind(a, b) < 0; got != want {
				t.Errorf("Less(%d, %d): %v", a, b, got)
			}
		}
	}
}

func TestP3_1In(t *testing.T) {
	for _, x := range []struct {
		x, from uint32
		size    int
		want    bool
	}{
		{0, top, 2, true},
		{1, top, 2, false},
		{top, top, 1, true},
		{top - 1, top, 2, false},
		{5, 5, 0, false},
		{5, 5, 1, true},
		{6, 5, 1, false},
		{5, 5, -1, false},
		{5, 5, math.MinInt, false},
		{5, 5, -1 << 32, false},
		{4, 5, top, false},
		{4, 5, top + 1, true},
		{3, 5, top, true},
		{4, 5, 1 << 33, true},
		{4, 5, math.MaxInt, true},
		{half + 5, 5, half, false},
		{half + 5, 5, half + 1, true},
		{half + 4, 5, half, true},
	} {
		if got := seq.In(x.x, x.from, x.size); got != x.want {
			t.Errorf("In(%d, %d, %d): %v", x.x, x.from, x.size, got)
		}
	}
	for _, a := range places {
		for _, from := range places {
			far := (int(a) - int(from) + 1<<32) % (1 << 32)
			for _, size := range append([]int{far - 1, far, far + 1}, steps...) {
				if got, want := seq.In(a, from, size), far < size; got != want {
					t.Errorf("In(%d, %d, %d): %v", a, from, size, got)
				}
			}
		}
	}
}

func TestP3_2Clip(t *testing.T) {
	const most = math.MaxInt
	for _, x := range []struct {
		s          api.Span
		from       uint32
		size       int
		skip, keep int
	}{
		{api.Span{From: 10, Size: 5}, 12, 9, 2, 3},
		{api.Span{From: 10, Size: 5}, 8, 4, 0, 2},
		{api.Span{From: 10, Size: 5}, 10, 5, 0, 5},
		{api.Span{From: 10, Size: 5}, 10, 3, 0, 3},
		{api.Span{From: 10, Size: 5}, 12, 2, 2, 2},
		{api.Span{From: 10, Size: 5}, 14, 9, 4, 1},
		{api.Span{From: 10, Size: 5}, 15, 9, 0, 0},
		{api.Span{From: 10, Size: 5}, 16, 9, 0, 0},
		{api.Span{From: 10, Size: 5}, 7, 4, 0, 1},
		{api.Span{From: 10, Size: 5}, 7, 3, 0, 0},
		{api.Span{From: 10, Size: 5}, 7, 2, 0, 0},
		{api.Span{From: 10, Size: 0}, 10, 5, 0, 0},
		{api.Span{From: 10, Size: -1}, 10, 5, 0, 0},
		{api.Span{From: 10, Size: 5}, 10, 0, 0, 0},
		{api.Span{From: 10, Size: 5}, 10, -1, 0, 0},
		{api.Span{From: 10, Size: math.MinInt}, 8, 5, 0, 0},
		{api.Span{From: 10, Size: 5}, 12, math.MinInt, 0, 0},
		{api.Span{From: 10, Size: 1}, 10, 1, 0, 1},
		{api.Span{From: top, Size: 3}, 0, 9, 1, 2},
		{api.Span{From: 1, Size: 3}, top, 4, 0, 2},
		{api.Span{From: 0, Size: most}, half, most, 0, 0},
		{api.Span{From: half, Size: most}, 0, most, 0, 0},
		{api.Span{From: 7, Size: most}, half + 7, most, 0, 0},
		{api.Span{From: 0, Size: most}, half - 1, most, half - 1, most - half + 1},
		{api.Span{From: 0, Size: most}, half + 1, most, 0, most - half + 1},
		{api.Span{From: 0, Size: half}, half - 1, most, half - 1, 1},
		{api.Span{From: 0, Size: half - 1}, half - 1, most, 0, 0},
		{api.Span{From: 0, Size: most}, half + 1, half, 0, 1},
		{api.Span{From: 0, Size: most}, half + 1, half - 1, 0, 0},
		{api.Span{From: 5, Size: most}, 5, most, 0, most},
	} {
		skip, keep := seq.Clip(x.s, x.from, x.size)
		if skip != x.skip || keep != x.keep {
			t.Errorf("Clip(%v, %d, %d): %d, %d, not %d, %d", x.s, x.from, x.size, skip, keep, x.skip, x.keep)
		}
	}
}

func TestP3_3Most(t *testing.T) {
	for _, x := range []struct {
		first uint32
		l     []uint32
		want  uint32
	}{
		{7, nil, 7},
		{7, []uint32{}, 7},
		{7, []uint32{7}, 7},
		{7, []uint32{6}, 7},
		{7, []uint32{8}, 8},
		{7, []uint32{6, 5, 0, top}, 7},
		{7, []uint32{8, 10, 9}, 10},
		{7, []uint32{10, 8, 10, 6}, 10},
		{top, []uint32{3, 0, top - 4}, 3},
		{top, []uint32{0, 3}, 3},
		{top - 2, []uint32{top, 1, top - 1}, 1},
		{0, []uint32{half}, 0},
		{0, []uint32{half + 1}, 0},
		{0, []uint32{half - 1}, half - 1},
		{0, []uint32{1, half, half - 1, half + 1}, half - 1},
		{half, []uint32{0}, half},
		{half, []uint32{top, 0}, top},
		{9, []uint32{half, half + 8, half + 9, half + 10}, half + 8}, // as seen from the first, not from one another
	} {
		if got := seq.Most(x.first, x.l...); got != x.want {
			t.Errorf("Most(%d, %v): %d, not %d", x.first, x.l, got, x.want)
		}
	}
}

func TestP3_3MostOfMany(t *testing.T) {
	next := chance(3)
	for range 500 {
		first, l := next(), make([]uint32, next()%9)
		want, far := first, 0
		for i := range l {
			l[i] = next()
			if d := behind(l[i], first); d > far {
				want, far = l[i], d
			}
		}
		before := slices.Clone(l)
		if got := seq.Most(first, l...); got != want {
			t.Fatalf("Most(%d, %v): %d, not %d", first, l, got, want)
		}
		if !slices.Equal(l, before) {
			t.Fatal("Most changed what it was given")
		}
	}
}

func TestP3_4Round(t *testing.T) {
	for _, a := range places {
		for _, b := range places {
			if got := seq.Add(b, seq.Diff(a, b)); got != a {
				t.Errorf("%d, by what %d stands behind it: %d", b, a, got)
			}
		}
		for _, n := range []int{0, 1, -1, 1 << 20, -1 << 20, half - 1, -half, -half + 1} {
			if got := seq.Diff(seq.Add(a, n), a); got != n {
				t.Errorf("%d and %d: %d further on", a, n, got)
			}
		}
	}
}

func TestP3_5Ahead(t *testing.T) {
	for _, a := range places {
		for _, b := range places {
			if a != b && a-b != half && seq.Less(a, b) == seq.Less(b, a) {
				t.Errorf("%d and %d: not just one stands ahead", a, b)
			}
			for _, n := range steps {
				x, y := seq.Add(a, n), seq.Add(b, n)
				if seq.Less(x, y) != seq.Less(a, b) || seq.Diff(x, y) != seq.Diff(a, b) {
					t.Errorf("%d and %d, moved on by %d: another order", a, b, n)
				}
			}
		}
	}
}

func TestP3_6ClippedIsAll(t *testing.T) {
	const most = 1 << 30
	for _, base := range places {
		for _, far := range []int{0, 1, 2, 3, 4, 5, -1, -2, -3, -4, -5, most, most - 1, -most, -most + 1} {
			for _, size := range []int{1, 2, 3, 6, most - 1, most} {
				for _, other := range []int{1, 2, 3, 6, most - 1, most} {
					// The stretches without going round: from 0 to size, and from far to far and other.
					lo, hi := max(0, far), min(size, far+other)
					if lo >= hi {
						lo, hi = 0, 0
					}
					s, from := api.Span{From: base, Size: size}, base+uint32(far)
					skip, keep := seq.Clip(s, from, other)
					if skip != lo || keep != hi-lo {
						t.Fatalf("Clip(%v, %d, %d): %d, %d, not %d, %d", s, from, other, skip, keep, lo, hi-lo)
					}
				}
			}
		}
	}
}

func TestP3_6ClippedLiesInBoth(t *testing.T) {
	next := chance(6)
	for i := range 20000 {
		s, from := api.Span{From: next(), Size: int(next() >> (i % 32))}, next()
		size := int(next() >> (i / 32 % 32))
		skip, keep := seq.Clip(s, from, size)
		if skip < 0 || keep < 0 || skip > s.Size || keep > s.Size-skip || keep > size || keep == 0 && skip != 0 {
			t.Fatalf("Clip(%v, %d, %d): %d, %d", s, from, size, skip, keep)
		}
		if keep == 0 {
			continue
		}
		one, last := s.From+uint32(skip), s.From+uint32(skip)+uint32(keep-1)
		if !seq.In(one, from, size) || !seq.In(last, from, size) || !seq.In(one, s.From, s.Size) || !seq.In(last, s.From, s.Size) {
			t.Fatalf("Clip(%v, %d, %d): %d, %d lie not in both", s, from, size, skip, keep)
		}
	}
}
