package octet_test

import (
	"bytes"
	"fmt"
	"math"
	"slices"
	"strconv"
	"strings"
	"testing"

	"flume/api"
	"flume/octet"
)

// plain writes a number's bits as a text, as the chapter tells it.
func plain(n int) []byte {
	n = max(n, 0)
	k := 0
	for k < 8 && n>>(7*(k+1)) > 0 {
		k++
	}
	bits := strings.Repeat("1", k)
	if k < 8 {
		bits += "0"
	}
	bits += fmt.Sprintf("%0*b", 8*(k+1)-len(bits), n)
	var out []byte
	for i := 0; i < len(bits); i += 8 {
		b, err := strconv.ParseUint(bits[i:i+8], 2, 8)
		if err != nil {
			panic(err)
		}
		out = append(out, byte(b))
	}
	return out
}

// some is numbers of all lengths, the least and the greatest of each, and those about each power of 2, in order.
func some() []int {
	out := []int{0, math.MaxInt}
	for i := range 63 {
		for _, d := range []int{-1, 0, 1} {
			if n := 1<<i + d; n >= 0 {
				out = append(out, n)
			}
		}
		out = append(out, math.MaxInt/3>>i, math.MaxInt/7>>i)
	}
	slices.Sort(out)
	return slices.Compact(out)
}

// behind is a slice with spare room, and that room, which no call may touch.
func behind(b []byte) (short, spare []byte) {
	whole := append(bytes.Clone(b), bytes.Repeat([]byte{0xa5}, 16)...)
	return whole[:len(b)], whole[len(b):]
}

func untouched(spare []byte) bool {
	return bytes.Equal(spare, bytes.Repeat([]byte{0xa5}, 16))
}

func TestP2_1Number(t *testing.T) {
	seven := bytes.Repeat([]byte{255}, 7)
	for _, x := range []struct {
		n    int
		want []byte
	}{
		{0, []byte{0}},
		{1, []byte{1}},
		{127, []byte{0x7f}},
		{128, []byte{0x80, 0x80}},
		{300, []byte{0x81, 0x2c}},
		{16383, []byte{0xbf, 0xff}},
		{16384, []byte{0xc0, 0x40, 0}},
		{1<<21 - 1, []byte{0xdf, 0xff, 0xff}},
		{1 << 21, []byte{0xe0, 0x20, 0, 0}},
		{1<<28 - 1, []byte{0xef, 0xff, 0xff, 0xff}},
		{1 << 28, []byte{0xf0, 0x10, 0, 0, 0}},
		{1<<35 - 1, []byte{0xf7, 0xff, 0xff, 0xff, 0xff}},
		{1 << 35, []byte{0xf8, 8, 0, 0, 0, 0}},
		{1 << 42, []byte{0xfc, 4, 0, 0, 0, 0, 0}},
		{1 << 49, []byte{0xfe, 2, 0, 0, 0, 0, 0, 0}},
		{1<<56 - 1, append([]byte{0xfe}, seven...)},
		{1 << 56, []byte{0xff, 1, 0, 0, 0, 0, 0, 0, 0}},
		{math.MaxInt, append([]byte{0xff, 0x7f}, seven...)},
		{-1, []byte{0}},
		{math.MinInt, []byte{0}},
	} {
		if got := octet.Number(nil, x.n); !bytes.Equal(got, x.want) {
			t.Errorf("%d: %x, not %x", x.n, got, x.want)
		}
		if got := octet.Number([]byte("ab"), x.n); !bytes.Equal(got, append([]byte("ab"), x.want...)) {
			t.Errorf("ab and %d: %x", x.n, got)
		}
	}
	for _, n := range some() {
		if got, want := octet.Number([]byte{}, n), plain(n); !bytes.Equal(got, want) {
			t.Errorf("%d: %x, not %x", n, got, want)
		}
	}
}

func TestP2_1Numbers(t *testing.T) {
	if got := octet.Numbers([]byte("ab"), 7, 300, -5, 128); !bytes.Equal(got, []byte{'a', 'b', 7, 0x81, 0x2c, 0, 0x80, 0x80}) {
		t.Errorf("%x", got)
	}
	if got := octet.Numbers([]byte("ab")); string(got) != "ab" {
		t.Errorf("none: %x", got)
	}
	if got := octet.Numbers(nil); len(got) != 0 {
		t.Errorf("nothing: %x", got)
	}
	var want []byte
	for _, n := range some() {
		want = append(want, plain(n)...)
	}
	if got := octet.Numbers(nil, some()...); !bytes.Equal(got, want) {
		t.Errorf("%x, not %x", got, want)
	}
}

func TestP2_1Text(t *testing.T) {
	for _, n := range []int{0, 1, 2, 127, 128, 16383, 16384, 20000} {
		s := bytes.Repeat([]byte{0xc3}, n)
		want := slices.Concat([]byte("ab"), plain(n), s)
		if got := octet.Text([]byte("ab"), s); !bytes.Equal(got, want) {
			t.Errorf("%d bytes: %x", n, got)
		}
	}
	if got := octet.Text(nil, nil); !bytes.Equal(got, []byte{0}) {
		t.Errorf("nothing: %x", got)
	}
}

func TestP2_1Flag(t *testing.T) {
	if got := octet.Flag([]byte("ab"), true); !bytes.Equal(got, []byte{'a', 'b', 1}) {
		t.Errorf("yes: %x", got)
	}
	if got := octet.Flag(nil, false); !bytes.Equal(got, []byte{0}) {
		t.Errorf("no: %x", got)
	}
}

func TestPuttingTakesNewMemory(t *testing.T) {
	calls := []func(b []byte) []byte{
		func(b []byte) []byte { return octet.Number(b, 300) },
		func(b []byte) []byte { return octet.Numbers(b, 300, 5) },
		func(b []byte) []byte { return octet.Numbers(b) },
		func(b []byte) []byte { return octet.Text(b, []byte("xy")) },
		func(b []byte) []byte { return octet.Text(b, nil) },
		func(b []byte) []byte { return octet.Flag(b, true) },
		func(b []byte) []byte { return octet.Flag(b, false) },
	}
	for i, call := range calls {
		b, spare := behind([]byte("abc"))
		out := call(b)
		out[0] = 'x'
		_ = append(out, 1, 2, 3)
		if string(b) != "abc" || !untouched(spare) {
			t.Errorf("call %d touched what it was given: %x %x", i, b, spare)
		}
	}
	s, spare := behind([]byte("text"))
	out := octet.Text(nil, s)
	_ = append(out, 1, 2, 3)
	out[1] = 'x'
	if string(s) != "text" || !untouched(spare) {
		t.Errorf("Text touched its text: %x %x", s, spare)
	}
	l := []int{-1, 5}
	octet.Numbers(nil, l...)
	if l[0] != -1 || l[1] != 5 {
		t.Error("Numbers touched its numbers")
	}
}

func TestP2_2Byte(t *testing.T) {
	r := octet.Read([]byte{0xff, 0, 7})
	for i, want := range []byte{0xff, 0, 7} {
		if b, e := r.Byte(); b != want || e != api.OK || r.Left() != 2-i {
			t.Fatal(i, b, e, r.Left())
		}
	}
	for range 2 {
		if b, e := r.Byte(); b != 0 || e != api.ErrShort || r.Left() != 0 {
			t.Fatal(b, e)
		}
	}
}

// refused is bytes that are no number, and why.
var refused = []struct {
	b []byte
	e api.Errno
}{
	{nil, api.ErrShort},
	{[]byte{0x80}, api.ErrShort},
	{[]byte{0xc0, 0x40}, api.ErrShort},
	{[]byte{0xc0, 0}, api.ErrShort}, // too long a form, too, if it went on
	{[]byte{0xff}, api.ErrShort},
	{[]byte{0xff, 255, 255, 255, 255, 255, 255, 255}, api.ErrShort},
	{[]byte{0xfe, 255, 255, 255, 255, 255, 255}, api.ErrShort},
	{bytes.Repeat([]byte{255}, 9), api.ErrRange},
	{[]byte{0xff, 0x80, 0, 0, 0, 0, 0, 0, 0}, api.ErrRange},
	{[]byte{0x80, 0x7f}, api.ErrForm},
	{[]byte{0x80, 0}, api.ErrForm},
	{[]byte{0x80, 1, 1}, api.ErrForm},
	{[]byte{0xc0, 0x3f, 0xff}, api.ErrForm},
	{[]byte{0xe0, 0x1f, 0xff, 0xff}, api.ErrForm},
	{[]byte{0xfe, 1, 255, 255, 255, 255, 255, 255}, api.ErrForm},
	{[]byte{0xff, 0, 255, 255, 255, 255, 255, 255, 255}, api.ErrForm},
	{[]byte{0xff, 0, 0, 0, 0, 0, 0, 0, 0}, api.ErrForm},
}

func TestP2_2Number(t *testing.T) {
	for _, x := range refused {
		r := octet.Read(x.b)
		for range 2 {
			if n, e := r.Number(); n != 0 || e != x.e || r.Left() != len(x.b) {
				t.Errorf("%x: %d, %d, %d left", x.b, n, int(e), r.Left())
			}
		}
	}
	for _, n := range some() {
		r := octet.Read(append(plain(n), 0xee))
		if got, e := r.Number(); got != n || e != api.OK || r.Left() != 1 {
			t.Errorf("%d: %d, %d, %d left", n, got, int(e), r.Left())
		}
	}
}

func TestP2_2Within(t *testing.T) {
	for _, x := range refused {
		r := octet.Read(x.b)
		for _, hi := range []int{-1, 0, math.MaxInt} {
			if n, e := r.Within(0, hi); n != 0 || e != x.e || r.Left() != len(x.b) {
				t.Errorf("%x: %d, %d, %d left", x.b, n, int(e), r.Left())
			}
		}
	}
	for _, x := range []struct {
		n, lo, hi int
		e         api.Errno
	}{
		{300, 300, 300, api.OK},
		{300, 0, 299, api.ErrRange},
		{300, 301, 999, api.ErrRange},
		{300, 299, 301, api.OK},
		{300, 300, math.MaxInt, api.OK},
		{300, math.MinInt, 300, api.OK},
		{300, 301, 299, api.ErrRange},
		{300, 999, 0, api.ErrRange},
		{0, 0, 0, api.OK},
		{0, -5, -1, api.ErrRange},
		{0, 1, 1, api.ErrRange},
		{math.MaxInt, math.MaxInt, math.MaxInt, api.OK},
		{math.MaxInt, math.MinInt, math.MaxInt - 1, api.ErrRange},
	} {
		b := append(plain(x.n), 9)
		r := octet.Read(b)
		n, e := r.Within(x.lo, x.hi)
		want, left := x.n, 1
		if x.e != api.OK {
			want, left = 0, len(b)
		}
		if n != want || e != x.e || r.Left() != left {
			t.Errorf("%d within %d to %d: %d, %d, %d left", x.n, x.lo, x.hi, n, int(e), r.Left())
		}
	}
}

func TestP2_2Text(t *testing.T) {
	for _, x := range refused {
		r := octet.Read(x.b)
		for _, most := range []int{math.MinInt, 0, math.MaxInt} {
			if s, e := r.Text(most); len(s) != 0 || e != x.e || r.Left() != len(x.b) {
				t.Errorf("%x: %x, %d, %d left", x.b, s, int(e), r.Left())
			}
		}
	}
	for _, x := range []struct {
		b    []byte
		most int
		want string
		left int
		e    api.Errno
	}{
		{[]byte{2, 'a', 'b'}, 2, "ab", 0, api.OK},
		{[]byte{2, 'a', 'b', 'c'}, math.MaxInt, "ab", 1, api.OK},
		{[]byte{2, 'a', 'b'}, 1, "", 3, api.ErrLong},
		{[]byte{2, 'a', 'b'}, 0, "", 3, api.ErrLong},
		{[]byte{2, 'a', 'b'}, -1, "", 3, api.ErrLong},
		{[]byte{2, 'a'}, 1, "", 2, api.ErrLong},
		{[]byte{2, 'a'}, 2, "", 2, api.ErrShort},
		{[]byte{1}, 9, "", 1, api.ErrShort},
		{[]byte{0}, 0, "", 0, api.OK},
		{[]byte{0, 7}, -9, "", 1, api.OK},
		{[]byte{0, 7}, math.MinInt, "", 1, api.OK},
		{append(plain(math.MaxInt), 'a'), math.MaxInt, "", 10, api.ErrShort},
		{append(plain(math.MaxInt), 'a'), math.MaxInt - 1, "", 10, api.ErrLong},
	} {
		r := octet.Read(x.b)
		s, e := r.Text(x.most)
		if string(s) != x.want || e != x.e || r.Left() != x.left {
			t.Errorf("%x, at most %d: %x, %d, %d left", x.b, x.most, s, int(e), r.Left())
		}
	}
	long := bytes.Repeat([]byte("xyz"), 100)
	if s, e := octet.Read(octet.Text(nil, long)).Text(300); !bytes.Equal(s, long) || e != api.OK {
		t.Error(len(s), e)
	}
}

func TestP2_2Flag(t *testing.T) {
	for _, x := range refused {
		r := octet.Read(x.b)
		if yes, e := r.Flag(); yes || e != x.e || r.Left() != len(x.b) {
			t.Errorf("%x: %v, %d, %d left", x.b, yes, int(e), r.Left())
		}
	}
	for _, x := range []struct {
		b    []byte
		want bool
		left int
		e    api.Errno
	}{
		{[]byte{0}, false, 0, api.OK},
		{[]byte{1}, true, 0, api.OK},
		{[]byte{1, 1}, true, 1, api.OK},
		{[]byte{2}, false, 1, api.ErrForm},
		{[]byte{0x7f, 0}, false, 2, api.ErrForm},
		{[]byte{0x80, 0x80}, false, 2, api.ErrForm},
		{plain(math.MaxInt), false, 9, api.ErrForm},
	} {
		r := octet.Read(x.b)
		if yes, e := r.Flag(); yes != x.want || e != x.e || r.Left() != x.left {
			t.Errorf("%x: %v, %d, %d left", x.b, yes, int(e), r.Left())
		}
	}
}

func TestP2_2LeftAndEnd(t *testing.T) {
	r := octet.Read([]byte{5, 1, 'a', 1})
	want := []int{4, 3, 1, 0}
	for i, read := range []func(){
		func() { r.Number() },
		func() { r.Text(9) },
		func() { r.Flag() },
	} {
		if r.Left() != want[i] || r.End() != api.ErrMore {
			t.Fatal(i, r.Left(), r.End())
		}
		read()
	}
	if r.Left() != want[3] || r.End() != api.OK {
		t.Fatal(r.Left(), r.End())
	}
	for _, b := range [][]byte{nil, {}} {
		if r := octet.Read(b); r == nil || r.Left() != 0 || r.End() != api.OK {
			t.Fatal("a reader of nothing")
		}
	}
}

func TestP2_2ReaderThatReadDidNotMake(t *testing.T) {
	for _, r := range []*octet.Reader{nil, {}, new(octet.Reader)} {
		if r.Left() != 0 {
			t.Error("Left", r.Left())
		}
		if b, e := r.Byte(); b != 0 || e != api.ErrNil {
			t.Error("Byte", b, e)
		}
		if n, e := r.Number(); n != 0 || e != api.ErrNil {
			t.Error("Number", n, e)
		}
		if n, e := r.Within(0, -1); n != 0 || e != api.ErrNil {
			t.Error("Within", n, e)
		}
		if s, e := r.Text(-1); len(s) != 0 || e != api.ErrNil {
			t.Error("Text", s, e)
		}
		if yes, e := r.Flag(); yes || e != api.ErrNil {
			t.Error("Flag", yes, e)
		}
		if e := r.End(); e != api.ErrNil {
			t.Error("End", e)
		}
	}
}

func TestP2_2ReaderHasItsOwnBytes(t *testing.T) {
	b, spare := behind([]byte{2, 'a', 'b', 2, 'c', 'd'})
	r, other := octet.Read(b), octet.Read(b)
	clear(b)
	s, e := r.Text(2)
	if string(s) != "ab" || e != api.OK {
		t.Fatal("what was read over was changed from outside", s, e)
	}
	s[0] = 'x'
	_ = append(s, 'x', 'x', 'x')
	if s, e := r.Text(2); string(s) != "cd" || e != api.OK {
		t.Fatal("a text shares the reader's memory", s, e)
	}
	if s, e := other.Text(2); string(s) != "ab" || e != api.OK || other.Left() != 3 {
		t.Fatal("two readers know of one another", s, e)
	}
	if !bytes.Equal(b, make([]byte, 6)) || !untouched(spare) {
		t.Fatal("a reader touched what it was given")
	}
}

func TestP2_3ThereAndBack(t *testing.T) {
	texts := [][]byte{nil, {0}, []byte("text"), bytes.Repeat([]byte{0xff}, 130)}
	for _, end := range [][]byte{nil, {0}, {0xff}, {0x80, 0x7f}} {
		for i, n := range some() {
			s, yes := texts[i%len(texts)], i%2 == 0
			b := octet.Flag(octet.Text(octet.Numbers(octet.Number(nil, n), n/2, 7), s), yes)
			r := octet.Read(append(b, end...))
			for _, want := range []int{n, n / 2, 7} {
				if got, e := r.Number(); got != want || e != api.OK {
					t.Fatal(n, got, e)
				}
			}
			if got, e := r.Text(len(s)); !bytes.Equal(got, s) || e != api.OK {
				t.Fatal(n, got, e)
			}
			if got, e := r.Flag(); got != yes || e != api.OK || r.Left() != len(end) {
				t.Fatal(n, got, e)
			}
		}
	}
}

// oneForm reads a number at the beginning of b and puts it again.
func oneForm(t *testing.T, b []byte) {
	r := octet.Read(b)
	n, e := r.Number()
	if e != api.OK {
		return
	}
	if took := b[:len(b)-r.Left()]; !bytes.Equal(octet.Number(nil, n), took) {
		t.Fatalf("%x: %d", took, n)
	}
}

func TestP2_4OneForm(t *testing.T) {
	for i := range 1 << 16 {
		oneForm(t, []byte{byte(i >> 8), byte(i)})
	}
	for k := range 9 {
		head := ^(byte(0xff) >> k)
		for low := range 1 << 11 {
			b := []byte{head | byte(low>>8), byte(low), 0, 0, 0, 0, 0, 0, 0}
			oneForm(t, b)
			b[8] = 1
			oneForm(t, b)
		}
	}
	for n := range 200 {
		b := octet.Text(nil, bytes.Repeat([]byte{7}, n))
		if s, e := octet.Read(b).Text(n); e != api.OK || !bytes.Equal(octet.Text(nil, s), b) {
			t.Fatal(n, e)
		}
	}
	for _, b := range [][]byte{{0}, {1}} {
		if yes, e := octet.Read(b).Flag(); e != api.OK || !bytes.Equal(octet.Flag(nil, yes), b) {
			t.Fatal(b, yes, e)
		}
	}
}

func TestP2_5Order(t *testing.T) {
	l := some()
	for i, more := range l {
		for _, less := range l[:i] {
			if bytes.Compare(octet.Number(nil, less), octet.Number(nil, more)) >= 0 {
				t.Fatalf("%d does not stand ahead of %d", less, more)
			}
		}
	}
}

func TestP2_6Cut(t *testing.T) {
	for _, n := range some() {
		b := octet.Number(nil, n)
		for i := range len(b) {
			r := octet.Read(b[:i])
			if got, e := r.Number(); got != 0 || e != api.ErrShort || r.Left() != i {
				t.Fatalf("%d, cut to %d bytes: %d, %d", n, i, got, int(e))
			}
		}
	}
}
