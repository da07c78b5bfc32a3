package lz_test

import (
	"bytes"
	"encoding/hex"
	"math"
	"slices"
	"strings"
	"testing"

	"flume/api"
	"flume/lz"
)

// chance is so many bytes below a number, which look like chance and are the same each time.
func chance(from uint64, n, kinds int) []byte {
	b := make([]byte, n)
	for i := range b {
		from = from*6364136223846793005 + 1442695040888963407
		b[i] = byte(from >> 33 % uint64(kinds))
	}
	return b
}

// far is bytes of which no three come again within 1000 bytes.
func far(n int) []byte {
	var b []byte
	for i := 0; len(b) < n; i++ {
		b = append(b, byte(i>>8), byte(i), 255-byte(i), 77)
	}
	return b[:n]
}

// join is parts, one behind the other.
func join(parts ...[]byte) []byte {
	return slices.Concat(parts...)
}

// number is a number's bytes, of 1 to 512.
func number(n int) []byte {
	if n < 128 {
		return []byte{byte(n)}
	}
	return []byte{0x80 | byte(n>>8), byte(n)}
}

// plainLiterals is tokens that add bytes as they are.
func plainLiterals(b []byte) []byte {
	var out []byte
	for ; len(b) > 128; b = b[128:] {
		out = append(append(out, 127), b[:128]...)
	}
	if len(b) > 0 {
		out = append(append(out, byte(len(b)-1)), b...)
	}
	return out
}

// plain is Shorten by the chapter's words.
func plain(b []byte) []byte {
	var out, as []byte
	for at := 0; at < len(b); {
		most, back := 0, 0
		for d := 1; d <= 512 && d <= at; d++ {
			n := 0
			for n < 66 && at+n < len(b) && b[at-d+n] == b[at+n] {
				n++
			}
			if n > most {
				most, back = n, d
			}
		}
		if most < 3 {
			as = append(as, b[at])
			at++
			continue
		}
		out = join(out, plainLiterals(as), []byte{byte(most + 125)}, number(back))
		as = nil
		at += most
	}
	return join(out, plainLiterals(as))
}

// plainNumber is a number at the beginning of bytes, and what stands behind it.
func plainNumber(b []byte) (uint64, []byte, api.Errno) {
	if len(b) == 0 {
		return 0, nil, api.ErrShort
	}
	k := 0
	for k < 8 && b[0]&(0x80>>k) != 0 {
		k++
	}
	if len(b) < 1+k {
		return 0, nil, api.ErrShort
	}
	n := uint64(b[0]) & (0xff >> (k + 1))
	if k == 8 {
		n = 0
	}
	for _, x := range b[1 : 1+k] {
		n = n<<8 | uint64(x)
	}
	if n > math.MaxInt64 || k > 0 && n < 1<<(7*k) {
		return 0, nil, api.ErrLz
	}
	return n, b[1+k:], api.OK
}

// plainRestore is Restore by the chapter's words.
func plainRestore(b []byte, most int) ([]byte, api.Errno) {
	out := []byte{}
	for len(b) > 0 {
		first := int(b[0])
		b = b[1:]
		if first <= 127 {
			if len(b) < first+1 {
				return nil, api.ErrShort
			}
			out, b = append(out, b[:first+1]...), b[first+1:]
		} else {
			back, rest, e := plainNumber(b)
			if e == api.ErrShort {
				return nil, e
			}
			if first > 191 || e != api.OK || back < 1 || back > 512 || back > uint64(len(out)) {
				return nil, api.ErrLz
			}
			for range first - 125 {
				out = append(out, out[len(out)-int(back)])
			}
			b = rest
		}
		if len(out) > most {
			return nil, api.ErrCap
		}
	}
	return out, api.OK
}

// some is texts to shorten: of few and of many kinds of bytes, with sizes at the edges, with stretches that come again at the edges of what counts.
func some() [][]byte {
	out := [][]byte{nil, {}, {0}, {255}, far(3000), chance(1, 5000, 256), chance(2, 5000, 2), chance(3, 5000, 20)}
	for n := range 300 {
		out = append(out, bytes.Repeat([]byte{7}, n), far(n), bytes.Repeat([]byte("abcde"), n)[:n], chance(uint64(n), n, 2+n%5))
	}
	for i := range 40 {
		out = append(out, chance(uint64(i), 700+40*i, 2+i), bytes.Repeat(chance(uint64(i), 490+i, 256), 3))
	}
	for n := range 140 {
		out = append(out, join(far(500)[:n], []byte("again"), far(800)[n:n+520-len("again")-n%20], []byte("again")))
		out = append(out, join(far(n), []byte{1}, far(n), []byte{2}, far(n)))
	}
	worst := far(300)
	for i := range 99 {
		worst = join(worst, []byte{200 + byte(i)}, worst[3*i:3*i+3])
	}
	out = append(out, worst)
	return out
}

func TestP7_1Shorten(t *testing.T) {
	for i, b := range some() {
		if got, want := lz.Shorten(b), plain(b); !bytes.Equal(got, want) {
			t.Fatalf("text %d, %d bytes %x..:\n%x, not\n%x", i, len(b), b[:min(len(b), 40)], got, want)
		}
	}
}

func TestP7_1Examples(t *testing.T) {
	for _, x := range []struct{ text, want string }{
		{"", ""},
		{"a", "0061"},
		{"aa", "016161"},
		{"aaa", "02616161"}, // from the second one on there are but two
		{"aaaa", "00618001"},
		{"aaaaaaa", "00618301"},
		{"abab", "0361626162"},
		{"ababa", "0161628002"},
		{"abcab", "046162636162"},
		{"abcabc", "026162638003"},
		{"abcdbcda", "036162636480030061"},
		{"abcababcab", "0461626361628205"},
		{"abcdabce", "036162636480040065"},
		{"abcxabcyabc", "0361626378800400798004"},                 // the nearest of two that are as long
		{"abcdxabcyabcd", "046162636478800500798109"},             // the longest, which isn't the nearest
		{strings.Repeat("a", 67), "0061bf01"},                     // 66 at once
		{strings.Repeat("a", 69), "0061bf01016161"},               // two are left
		{strings.Repeat("a", 70), "0061bf018001"},                 // three are left
		{strings.Repeat("a", 67+66), "0061bf01bf01"},              // twice 66
		{strings.Repeat("ab", 34), "016162bf02"},                  // 66 of two
		{strings.Repeat("ab", 34) + "abac", "016162bf0280020063"}, // what was named is named again
	} {
		if got := hex.EncodeToString(lz.Shorten([]byte(x.text))); got != x.want {
			t.Errorf("%q: %s, not %s", x.text, got, x.want)
		}
	}
}

// rare is bytes that are none of the first 400 ones of far, and go with none of the first 600.
var rare = []byte{151, 152, 153}

// A stretch counts that begins 512 bytes ahead, one that begins farther ahead doesn't.
func TestP7_1Window(t *testing.T) {
	for back := 3; back < 600; back++ {
		ahead := join(rare, far(back-3))
		want := join(plainLiterals(ahead), []byte{128}, number(back))
		if back > 512 {
			want = plainLiterals(join(ahead, rare))
		}
		if got := lz.Shorten(join(ahead, rare)); !bytes.Equal(got, want) {
			t.Fatalf("%d back: %x, not %x", back, got, want)
		}
	}
}

// Bytes that are added as they are stand in tokens of 128, the last one of what is left.
func TestP7_1Literals(t *testing.T) {
	for n := range 400 {
		if got, want := lz.Shorten(far(n)), plainLiterals(far(n)); !bytes.Equal(got, want) {
			t.Fatalf("%d bytes: %x, not %x", n, got, want)
		}
		b := join(far(n), rare)
		want := join(plainLiterals(b), []byte{128, 3}, plainLiterals(rare[2:]))
		if got := lz.Shorten(join(b, rare, rare[2:])); !bytes.Equal(got, want) {
			t.Fatalf("%d bytes, and three again: %x, not %x", len(b), got, want)
		}
	}
}

// restored asks whether Restore answers what the chapter's words do, and tells what that is.
func restored(t *testing.T, b []byte, most int) ([]byte, api.Errno) {
	t.Helper()
	want, e := plainRestore(b, most)
	got, f := lz.Restore(b, most)
	if f != e || !bytes.Equal(got, want) {
		t.Fatalf("%x, at most %d: %x and %d, not %x and %d", b, most, got, int(f), want, int(e))
	}
	return got, f
}

func TestP7_2Examples(t *testing.T) {
	for _, x := range []struct {
		tokens string
		most   int
		want   string
		e      api.Errno
	}{
		{"", 0, "", api.OK},
		{"", -1, "", api.OK},
		{"", math.MinInt, "", api.OK},
		{"00618301", 7, "aaaaaaa", api.OK},
		{"00618301", math.MaxInt, "aaaaaaa", api.OK},
		{"01616200630064", 4, "abcd", api.OK}, // tokens that could be one
		{"0161628001", 5, "abbbb", api.OK},
		{"0161628002", 5, "ababa", api.OK},
		{"026162638103", 7, "abcabca", api.OK},
		{"0061bf01", 67, strings.Repeat("a", 67), api.OK},

		{"00", 9, "", api.ErrShort},
		{"0161", 9, "", api.ErrShort},
		{"7f61", 999, "", api.ErrShort},
		{"80", 9, "", api.ErrShort},
		{"006180", 9, "", api.ErrShort},
		{"00618080", 9, "", api.ErrShort},
		{"006180ff00", 9, "", api.ErrShort},
		{"0061c0", 9, "", api.ErrShort}, // ahead of ErrLz, though the first byte is none
		{"0061ff", 9, "", api.ErrShort},
		{"0061c080", 9, "", api.ErrShort},
		{"0161", 0, "", api.ErrShort}, // ahead of ErrCap
		{"006180", 1, "", api.ErrShort},

		{"8301", 9, "", api.ErrLz},
		{"8000", 9, "", api.ErrLz},
		{"00618000", 9, "", api.ErrLz},
		{"00618002", 9, "", api.ErrLz},
		{"0061c001", 99, "", api.ErrLz},
		{"0061ff01", 99, "", api.ErrLz},
		{"0061808001", 9, "", api.ErrLz},               // 1 in two bytes
		{"006180ff7fffffffffffffff", 9, "", api.ErrLz}, // 2^63 - 1
		{"006180ffffffffffffffffff", 9, "", api.ErrLz}, // above it
		{"006180ff0000000000000001", 9, "", api.ErrLz}, // 1 in nine bytes
		{"00618002", 1, "", api.ErrLz},                 // ahead of ErrCap
		{"0061c001", 1, "", api.ErrLz},

		{"00618301", 6, "", api.ErrCap},
		{"00618301", 0, "", api.ErrCap},
		{"00618301", -1, "", api.ErrCap},
		{"00618301", math.MinInt, "", api.ErrCap},
		{"0061", 0, "", api.ErrCap},
		{"0061bf01", 66, "", api.ErrCap},
		{"006100", 0, "", api.ErrCap}, // of the first token, whatever the next one is
		{"0061c001", 0, "", api.ErrCap},
	} {
		tokens, _ := hex.DecodeString(x.tokens)
		got, e := restored(t, tokens, x.most)
		if string(got) != x.want || e != x.e {
			t.Errorf("%s, at most %d: %q and %d, not %q and %d", x.tokens, x.most, got, int(e), x.want, int(x.e))
		}
	}
}

// A stretch may begin 512 bytes ahead, and no farther ahead than there are bytes.
func TestP7_2Back(t *testing.T) {
	for _, there := range []int{1, 2, 127, 128, 129, 511, 512, 513, 700} {
		b := far(there)
		for _, back := range []int{1, 2, 127, 128, 129, 510, 511, 512, 513, 514, 700, 1000} {
			got, e := restored(t, join(plainLiterals(b), []byte{128}, number(back)), 1000)
			if may := back <= min(there, 512); may != (e == api.OK) || may && !bytes.Equal(got[there:], join(b, got[there:])[there-back:][:3]) {
				t.Errorf("%d back of %d: %x and %d", back, there, got, int(e))
			}
		}
	}
}

// All short bytes, with little room and with much.
func TestP7_2Short(t *testing.T) {
	for x := range 1 << 16 {
		b := []byte{byte(x >> 8), byte(x)}
		restored(t, b[:1], 2)
		restored(t, b, 2)
		restored(t, join([]byte{1, 9, 8}, b), 70)
		restored(t, join([]byte{1, 9, 8, 192}, b), 70)
	}
	kinds := []byte{0, 1, 2, 3, 127, 128, 129, 191, 192, 255}
	for x := range 100000 {
		var b []byte
		for ; len(b) < 5; x /= 10 {
			b = append(b, kinds[x%10])
		}
		for _, most := range []int{0, 1, 4, 200} {
			restored(t, b, most)
		}
	}
}

// tokens is some tokens, and how many bytes they add.
func tokens(from uint64, parts int) (l [][]byte, size int) {
	c := chance(from, 6*parts, 256)
	for range parts {
		n := int(c[0]) % 192
		if size == 0 {
			n %= 128
		}
		if n < 128 {
			l = append(l, join([]byte{byte(n)}, chance(uint64(c[1]), n+1, 256)))
			size += n + 1
		} else {
			l = append(l, join([]byte{byte(n)}, number(1+(int(c[2])<<8+int(c[3]))%min(size, 512))))
			size += n - 125
		}
		c = c[6:]
	}
	return l, size
}

func TestP7_2Tokens(t *testing.T) {
	for i := range 2000 {
		l, size := tokens(uint64(i), 1+i%20)
		b := join(l...)
		for _, most := range []int{size - 70, size - 1, size, size + 1, 1 << 40} {
			if _, e := restored(t, b, most); (e == api.OK) != (size <= most) {
				t.Fatalf("%x, of %d bytes, at most %d: %d", b, size, most, int(e))
			}
		}
		for _, turn := range chance(uint64(i), 20, 256) {
			at := (int(turn) + i) % len(b)
			restored(t, b[:at], size)
			spoilt := bytes.Clone(b)
			spoilt[at] ^= turn | 1
			restored(t, spoilt, size)
		}
	}
}

func TestP7_3ThereAndBack(t *testing.T) {
	for i, b := range some() {
		got, e := lz.Restore(lz.Shorten(b), len(b))
		if e != api.OK || !bytes.Equal(got, b) {
			t.Fatalf("text %d, %d bytes: %d bytes and %d", i, len(b), len(got), int(e))
		}
	}
}

func TestP7_4Bounds(t *testing.T) {
	for i, b := range some() {
		s := lz.Shorten(b)
		if 3*(len(s)-1) > 4*len(b) {
			t.Fatalf("text %d: %d of %d bytes", i, len(s), len(b))
		}
		for most := len(b) - 70; most <= len(b)+1; most++ {
			if got, e := lz.Restore(s, most); len(got) > max(most, 0) || (e == api.OK) != (len(b) <= most || len(b) == 0) {
				t.Fatalf("text %d, at most %d: %d bytes and %d", i, most, len(got), int(e))
			}
		}
	}
}

func TestP7_5Behind(t *testing.T) {
	for i := range 300 {
		l, size := tokens(uint64(i), 20)
		whole, e := lz.Restore(join(l...), size)
		if e != api.OK {
			t.Fatal(int(e))
		}
		for n := range l {
			got, e := lz.Restore(join(l[:n]...), size)
			if e != api.OK || !bytes.HasPrefix(whole, got) || n > 0 && len(got) == 0 {
				t.Fatalf("%x: %x and %d, not a beginning of %x", l[:n], got, int(e), whole)
			}
		}
	}
}

func TestP7_6Less(t *testing.T) {
	for i := range 100 {
		l, size := tokens(uint64(i), 1+i%9)
		b := join(l...)
		want, e := lz.Restore(b, size)
		if e != api.OK {
			t.Fatal(int(e))
		}
		for _, more := range []int{1, 2, 65, 66, 67, 1000, math.MaxInt - size} {
			if got, e := lz.Restore(b, size+more); e != api.OK || !bytes.Equal(got, want) {
				t.Fatalf("%x, %d more: %x and %d, not %x", b, more, got, int(e), want)
			}
		}
	}
}

func TestMemoryIsNew(t *testing.T) {
	for _, call := range []func(b []byte) []byte{
		lz.Shorten,
		func(b []byte) []byte {
			out, _ := lz.Restore(b, 4000)
			return out
		},
	} {
		for i := range 50 {
			l, _ := tokens(uint64(i), 9)
			whole := join(append(l, chance(1, 300, 256))...)
			before := bytes.Clone(whole)
			given := whole[:len(whole)-300]
			got := call(given)
			if !bytes.Equal(whole, before) {
				t.Fatal("what was given was changed")
			}
			want := bytes.Clone(got)
			if again := call(given); !bytes.Equal(again, want) {
				t.Fatalf("%x, not %x, called again", again, want)
			}
			clear(whole)
			if !bytes.Equal(got, want) {
				t.Fatal("the answer shares what was given")
			}
			copy(whole, before)
			clear(got[:cap(got)])
			if !bytes.Equal(whole, before) {
				t.Fatal("what was given shares the answer")
			}
		}
	}
}
