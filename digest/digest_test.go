package digest_test

import (
	"bytes"
	"crypto/sha256"
	"encoding/hex"
	"slices"
	"strings"
	"testing"

	"flume/api"
	"flume/digest"
)

// chance is so many bytes that look like chance and are the same each time.
func chance(from uint64, n int) []byte {
	b := make([]byte, n)
	for i := range b {
		from = from*6364136223846793005 + 1442695040888963407
		b[i] = byte(from >> 56)
	}
	return b
}

// want is a digest, found by Go's own library.
func want(parts ...[]byte) api.Sum {
	return sha256.Sum256(slices.Concat(parts...))
}

func TestP8_1Examples(t *testing.T) {
	for _, x := range []struct{ text, want string }{
		{"", "e3b0c44298fc1c149afbf4c8996fb92427ae41e4649b934ca495991b7852b855"},
		{"abc", "ba7816bf8f01cfea414140de5dae2223b00361a396177a9cb410ff61f20015ad"},
		{"abcdbcdecdefdefgefghfghighijhijkijkljklmklmnlmnomnopnopq", "248d6a61d20638b8e5c026930c3e6039a33ce45964ff2167f6ecedd419db06c1"},
		{strings.Repeat("a", 1000000), "cdc76e5c9914fb9281a1c7e284d73e67f1809a48a497200e046d39ccc7112cd0"},
	} {
		sum := digest.Of([]byte(x.text))
		if got := hex.EncodeToString(sum[:]); got != x.want {
			t.Errorf("%.60s: %s, not %s", x.text, got, x.want)
		}
	}
}

// Each size around the ends of blocks, up to several of them.
func TestP8_1Sizes(t *testing.T) {
	for n := range 600 {
		for _, b := range [][]byte{chance(uint64(n), n), make([]byte, n), bytes.Repeat([]byte{255}, n)} {
			if got := digest.Of(b); got != want(b) {
				t.Fatalf("%d bytes: %x, not %x", n, got, want(b))
			}
			d := digest.New()
			d.Write(b)
			if got := d.Sum(); got != want(b) {
				t.Fatalf("%d bytes written: %x, not %x", n, got, want(b))
			}
		}
	}
}

// How many bits there are is told in more than 32 bits.
func TestP8_1Many(t *testing.T) {
	b := chance(8, 1<<20)
	d, other := digest.New(), sha256.New()
	for range 1 << 9 {
		d.Write(b)
		other.Write(b)
	}
	if got := d.Sum(); !bytes.Equal(got[:], other.Sum(nil)) {
		t.Errorf("2^29 bytes: %x, not %x", got, other.Sum(nil))
	}
}

func TestP8_1Parts(t *testing.T) {
	b := chance(1, 300)
	for _, parts := range [][][]byte{
		nil, {}, {nil}, {nil, {}, nil}, {b}, {b, nil}, {nil, b}, {b, b, b},
		{b[:1], b[1:]}, {b[:64], b[64:]}, {b[:63], b[63:65], b[65:]}, {b[100:], b[:100]},
		slices.Collect(slices.Chunk(b, 1)), slices.Collect(slices.Chunk(b, 7)),
	} {
		if got := digest.Of(parts...); got != want(parts...) {
			t.Errorf("%d parts: %x, not %x", len(parts), got, want(parts...))
		}
	}
	if digest.Of() != digest.New().Sum() {
		t.Error("a new hash was given something")
	}
}

func TestP8_1NoHash(t *testing.T) {
	for _, d := range []*digest.Hash{nil, {}} {
		for range 3 {
			d.Write(chance(2, 100))
			if d.Sum() != (api.Sum{}) {
				t.Error("a hash that New did not make has a digest")
			}
		}
	}
}

func TestP8_2Pieces(t *testing.T) {
	b := chance(3, 1000)
	for size := 1; size <= len(b); size++ {
		d := digest.New()
		for piece := range slices.Chunk(b, size) {
			d.Write(nil)
			d.Write(piece)
		}
		if d.Sum() != want(b) {
			t.Fatalf("pieces of %d: another digest", size)
		}
	}
	for from := range 130 {
		for to := from; to <= 130; to++ {
			d := digest.New()
			d.Write(b[:from])
			d.Write(b[from:to])
			d.Write(b[to:200])
			if d.Sum() != want(b[:200]) {
				t.Fatalf("cut at %d and %d: another digest", from, to)
			}
		}
	}
}

// At each place the digest is that of what was written so far, however often it is asked for.
func TestP8_2Asked(t *testing.T) {
	b := chance(4, 400)
	d := digest.New()
	for n := range b {
		for range 3 {
			if d.Sum() != want(b[:n]) {
				t.Fatalf("%d bytes: another digest", n)
			}
		}
		d.Write(b[n : n+1])
	}
}

func TestObjectsApart(t *testing.T) {
	a, b := chance(5, 500), chance(6, 500)
	c, d := digest.New(), digest.New()
	for i := range a {
		c.Write(a[i : i+1])
		d.Write(b[i : i+1])
	}
	if c.Sum() != want(a) || d.Sum() != want(b) {
		t.Error("hashes know of one another")
	}
	if digest.Of() != want() {
		t.Error("a new hash knows of others")
	}
}

func TestMemoryIsNew(t *testing.T) {
	whole := chance(7, 400)
	before := bytes.Clone(whole)
	given := whole[:150]
	d := digest.New()
	d.Write(given)
	digest.Of(given, given)
	sum := d.Sum()
	if !bytes.Equal(whole, before) {
		t.Error("what was given was changed")
	}
	clear(whole)
	clear(sum[:])
	if d.Sum() != want(before[:150]) {
		t.Error("the hash shares what it was given, or what it told")
	}
	parts := [][]byte{before[:10], before[10:90]}
	digest.Of(parts...)
	if len(parts[0]) != 10 || &parts[0][0] != &before[0] || len(parts[1]) != 80 || &parts[1][0] != &before[10] {
		t.Error("the list of parts was changed")
	}
}
