package record_test

import (
	"bytes"
	"crypto/sha256"
	"encoding/hex"
	"math"
	"reflect"
	"slices"
	"testing"

	"flume/api"
	"flume/lz"
	"flume/record"
)

// chance is so many bytes below a number, which look like chance and are the same each time.
func chance(from uint64, n, kinds int) []byte {
	b := make([]byte, n)
	for i := range b {
		from = from*6364136223846793005 + 1442695040888963407
		b[i] = byte(from >> 33 % uint64(kinds))
	}
	return b
}

// sumOf is a digest, found by Go's own library.
func sumOf(b []byte) api.Sum {
	return sha256.Sum256(b)
}

// some is chunks of all sizes, of few and of many kinds of bytes.
func some() (l [][]byte) {
	for n := 1; n <= 256; n++ {
		l = append(l, make([]byte, n), chance(uint64(n), n, 256), chance(uint64(n), n, 2), chance(uint64(n), n, 9), bytes.Repeat([]byte("abcde"), n)[:n])
	}
	return l
}

// numbers is those around the edges of what a note may have.
var numbers = []int{math.MinInt, -1 << 30, -1, 0, 1, 2, 127, 128, 65535, 65536, 1<<30 - 1, 1 << 30, 1<<30 + 1, 1 << 40, math.MaxInt}

// literal is a record of a chunk as it is.
func literal(b []byte) api.Record {
	return api.Record{Kind: api.RLit, Size: len(b), Sum: sumOf(b), Data: b}
}

// same tells whether two are alike; lists without anything are.
func same(a, b api.Note) bool {
	if !bytes.Equal(a.Rec.Data, b.Rec.Data) {
		return false
	}
	a.Rec.Data, b.Rec.Data = nil, nil
	return reflect.DeepEqual(a, b)
}

func TestP10_1Check(t *testing.T) {
	sizes := []int{math.MinInt, -1, 0, 1, 2, 255, 256, 257, 512, math.MaxInt}
	for _, kind := range []int{math.MinInt, -1, 0, api.RRef, api.RLit, api.RLz, 4, 257, math.MaxInt} {
		for _, size := range sizes {
			for _, n := range []int{0, 1, 2, 255, 256, 257, 1000} {
				for _, sum := range []api.Sum{{}, {1}, sumOf(make([]byte, n))} {
					may := size >= 1 && size <= 256
					switch kind {
					case api.RRef:
						may = may && n == 0
					case api.RLit:
						may = may && n == size
					case api.RLz:
						may = may && n <= 256
					default:
						may = false
					}
					want := api.ErrRecord
					if may {
						want = api.OK
					}
					r := api.Record{Kind: kind, Size: size, Sum: sum, Data: make([]byte, n)}
					if got := record.Check(r); got != want {
						t.Errorf("kind %d, size %d, %d bytes: %d, not %d", kind, size, n, int(got), int(want))
					}
				}
			}
		}
	}
	if e := record.Check(api.Record{}); e != api.ErrRecord {
		t.Errorf("nothing: %d", int(e))
	}
	if e := record.Check(api.Record{Kind: api.RRef, Size: 1}); e != api.OK {
		t.Errorf("a reference without a list: %d", int(e))
	}
}

func TestP10_1Make(t *testing.T) {
	for _, b := range some() {
		want := literal(b)
		if s := lz.Shorten(b); len(s) < len(b) {
			want.Kind, want.Data = api.RLz, s
		}
		if got, e := record.Make(b, false); e != api.OK || !reflect.DeepEqual(got, want) {
			t.Fatalf("%x: %v and %d, not %v", b, got, int(e), want)
		}
		want.Kind, want.Data = api.RRef, nil
		if got, e := record.Make(b, true); e != api.OK || !reflect.DeepEqual(got, want) {
			t.Fatalf("%x, known: %v and %d, not %v", b, got, int(e), want)
		}
	}
	for _, b := range [][]byte{nil, {}, make([]byte, 257), make([]byte, 258), chance(1, 512, 256), make([]byte, 100000)} {
		for _, known := range []bool{false, true} {
			if got, e := record.Make(b, known); e != api.ErrRecord || !reflect.DeepEqual(got, api.Record{}) {
				t.Errorf("%d bytes: %v and %d", len(b), got, int(e))
			}
		}
	}
}

func TestP10_1Examples(t *testing.T) {
	for _, x := range []struct {
		text string
		kind int
		data string
	}{
		{"abc", api.RLit, "616263"},
		{"a", api.RLit, "61"},
		{"aaaa", api.RLit, "61616161"}, // 00 61 80 01 is as long
		{"aaaaa", api.RLz, "00618101"},
		{string(make([]byte, 67)), api.RLz, "0000bf01"},
	} {
		got, e := record.Make([]byte(x.text), false)
		if e != api.OK || got.Kind != x.kind || got.Size != len(x.text) || hex.EncodeToString(got.Data) != x.data || got.Sum != sumOf([]byte(x.text)) {
			t.Errorf("%q: %v and %d", x.text, got, int(e))
		}
	}
	if r, e := record.Make(bytes.Repeat([]byte("a"), 100), false); e != api.OK || r.Kind != api.RLz || len(r.Data) > 8 {
		t.Errorf("100 bytes: %v and %d", r, int(e))
	}
}

func TestP10_1Open(t *testing.T) {
	abc, a7 := sumOf([]byte("abc")), sumOf([]byte("aaaaaaa"))
	for _, x := range []struct {
		kind, size int
		sum        api.Sum
		data       string
		want       string
		e          api.Errno
	}{
		{api.RLit, 3, abc, "616263", "abc", api.OK},
		{api.RLz, 7, a7, "00618301", "aaaaaaa", api.OK},
		{api.RLz, 3, abc, "02616263", "abc", api.OK}, // longer than the chunk
		{api.RLz, 3, abc, "006100620063", "abc", api.OK},
		{api.RLz, 7, a7, "006100618201", "aaaaaaa", api.OK}, // not as Shorten has it

		{api.RRef, 3, abc, "", "", api.ErrMiss},
		{api.RRef, 256, api.Sum{}, "", "", api.ErrMiss},

		{api.RRef, 3, abc, "616263", "", api.ErrRecord},
		{api.RRef, 0, abc, "", "", api.ErrRecord},
		{api.RRef, 257, abc, "", "", api.ErrRecord},
		{api.RLit, 0, sumOf(nil), "", "", api.ErrRecord},
		{api.RLit, 2, abc, "616263", "", api.ErrRecord},
		{api.RLit, 4, abc, "616263", "", api.ErrRecord},
		{0, 3, abc, "616263", "", api.ErrRecord},
		{4, 3, abc, "616263", "", api.ErrRecord},
		{api.RLz, 0, sumOf(nil), "", "", api.ErrRecord},
		{api.RLz, 6, a7, "00618301", "", api.ErrRecord},        // more than Size
		{api.RLz, 8, a7, "00618301", "", api.ErrRecord},        // less
		{api.RLz, 7, a7, "", "", api.ErrRecord},                // nothing
		{api.RLz, 7, a7, "006183", "", api.ErrRecord},          // ends too early
		{api.RLz, 7, a7, "0061830100", "", api.ErrRecord},      // something behind
		{api.RLz, 7, a7, "00618302", "", api.ErrRecord},        // too far back
		{api.RLz, 7, a7, "0061c301", "", api.ErrRecord},        // no token
		{api.RLz, 7, a7, "0061838001", "", api.ErrRecord},      // a number in another form
		{api.RLz, 8, api.Sum{}, "00618301", "", api.ErrRecord}, // ahead of ErrDigest
		{api.RLz, 7, api.Sum{}, "006183", "", api.ErrRecord},

		{api.RLit, 3, api.Sum{}, "616263", "", api.ErrDigest},
		{api.RLit, 3, a7, "616263", "", api.ErrDigest},
		{api.RLit, 3, abc, "616264", "", api.ErrDigest},
		{api.RLz, 7, abc, "00618301", "", api.ErrDigest},
		{api.RLz, 7, a7, "00628301", "", api.ErrDigest},
		{api.RLz, 4, sumOf([]byte{0, 97, 128, 1}), "00618001", "", api.ErrDigest}, // the digest of Data
	} {
		data, _ := hex.DecodeString(x.data)
		got, e := record.Open(api.Record{Kind: x.kind, Size: x.size, Sum: x.sum, Data: data})
		if string(got) != x.want || e != x.e || e != api.OK && got != nil {
			t.Errorf("kind %d, size %d, %s: %q and %d, not %q and %d", x.kind, x.size, x.data, got, int(e), x.want, int(x.e))
		}
	}
	if _, e := record.Open(api.Record{Kind: api.RLz, Size: 256, Data: make([]byte, 257)}); e != api.ErrRecord {
		t.Errorf("257 bytes: %d", int(e))
	}
}

// Of a digest each bit counts.
func TestP10_1OtherDigest(t *testing.T) {
	for _, b := range [][]byte{[]byte("abc"), make([]byte, 100)} {
		r, _ := record.Make(b, false)
		for bit := range 256 {
			spoilt := r
			spoilt.Sum[bit/8] ^= 1 << (bit % 8)
			if got, e := record.Open(spoilt); e != api.ErrDigest || got != nil {
				t.Errorf("bit %d of %v: %x and %d", bit, r, got, int(e))
			}
		}
	}
}

// most is how great a note's numbers may be by its kind: of Flow, Port, Dport and Index; 0: it has none.
func most(kind int) ([4]int, bool) {
	switch kind {
	case api.NOpen:
		return [4]int{1 << 30, 65535, 65535, 0}, true
	case api.NData, api.NMiss, api.NDone:
		return [4]int{1 << 30, 0, 0, 1 << 30}, true
	case api.NFin, api.NRst:
		return [4]int{1 << 30, 0, 0, 0}, true
	}
	return [4]int{}, false
}

// plainFits is Fits by the chapter's words.
func plainFits(n api.Note) api.Errno {
	l, ok := most(n.Kind)
	for i, x := range [4]int{n.Flow, n.Port, n.Dport, n.Index} {
		ok = ok && x <= l[i] && (x >= 1 || l[i] == 0 && x == 0)
	}
	if n.Kind == api.NData {
		ok = ok && record.Check(n.Rec) == api.OK
	} else {
		r := n.Rec
		ok = ok && r.Kind == 0 && r.Size == 0 && r.Sum == api.Sum{} && len(r.Data) == 0
	}
	if ok {
		return api.OK
	}
	return api.ErrRecord
}

// records is some that may be, some that may not, and the zero one.
func records() []api.Record {
	shortened, _ := record.Make(make([]byte, 256), false)
	known, _ := record.Make([]byte("abc"), true)
	unlike := literal([]byte("abc"))
	unlike.Size = 2
	return []api.Record{
		{}, {Data: []byte{}}, {Kind: 1}, {Size: 1}, {Sum: api.Sum{31: 1}}, {Data: []byte{0}},
		literal([]byte("abc")), literal(chance(1, 256, 256)), shortened, known, unlike,
		{Kind: api.RLz, Size: 7}, {Kind: api.RLit, Size: 1, Data: []byte{9}},
	}
}

// notes is all of some kinds, numbers and records, most of which may not be.
func notes() (l []api.Note) {
	for _, kind := range []int{math.MinInt, -1, 0, 1, 2, 3, 4, 5, 6, 7, 128, 257, math.MaxInt} {
		top, _ := most(kind)
		for _, r := range records() {
			n := api.Note{Kind: kind, Flow: min(top[0], 300), Port: min(top[1], 301), Dport: min(top[2], 302), Index: min(top[3], 303), Rec: r}
			for _, x := range numbers {
				one, two, three, four := n, n, n, n
				one.Flow, two.Port, three.Dport, four.Index = x, x, x, x
				l = append(l, n, one, two, three, four)
			}
		}
	}
	return l
}

func TestP10_2Fits(t *testing.T) {
	may := 0
	for _, n := range notes() {
		want := plainFits(n)
		if got := record.Fits(n); got != want {
			t.Errorf("%v: %d, not %d", n, int(got), int(want))
		}
		if want == api.OK {
			may++
		}
	}
	if may < 100 {
		t.Errorf("only %d notes may be", may)
	}
	if e := record.Fits(api.Note{}); e != api.ErrRecord {
		t.Errorf("nothing: %d", int(e))
	}
}

// number is a number's bytes, of those below 2^35.
func number(n int) []byte {
	switch {
	case n < 1<<7:
		return []byte{byte(n)}
	case n < 1<<14:
		return []byte{0x80 | byte(n>>8), byte(n)}
	case n < 1<<21:
		return []byte{0xc0 | byte(n>>16), byte(n >> 8), byte(n)}
	case n < 1<<28:
		return []byte{0xe0 | byte(n>>24), byte(n >> 16), byte(n >> 8), byte(n)}
	}
	return []byte{0xf0 | byte(n>>32), byte(n >> 24), byte(n >> 16), byte(n >> 8), byte(n)}
}

// plainPut is the bytes of a note that may be, by the chapter's words.
func plainPut(n api.Note) []byte {
	b := slices.Concat(number(n.Kind), number(n.Flow))
	switch n.Kind {
	case api.NOpen:
		return slices.Concat(b, number(n.Port), number(n.Dport))
	case api.NMiss, api.NDone:
		return slices.Concat(b, number(n.Index))
	case api.NData:
		r := n.Rec
		return slices.Concat(b, number(n.Index), number(r.Kind), number(r.Size), r.Sum[:], number(len(r.Data)), r.Data)
	}
	return b
}

func TestP10_2Put(t *testing.T) {
	for _, n := range notes() {
		var want []byte
		e := plainFits(n)
		if e == api.OK {
			want = plainPut(n)
		}
		if got, f := record.Put(n); f != e || !bytes.Equal(got, want) || e != api.OK && got != nil {
			t.Fatalf("%v: %x and %d, not %x and %d", n, got, int(f), want, int(e))
		}
	}
}

func TestP10_2Examples(t *testing.T) {
	abc := sumOf([]byte("abc"))
	sum := hex.EncodeToString(abc[:])
	r := literal([]byte("abc"))
	known := api.Record{Kind: api.RRef, Size: 256, Sum: abc}
	for _, x := range []struct {
		n    api.Note
		want string
	}{
		{api.Note{Kind: api.NFin, Flow: 7}, "0307"},
		{api.Note{Kind: api.NRst, Flow: 128}, "048080"},
		{api.Note{Kind: api.NOpen, Flow: 1, Port: 1000, Dport: 80}, "010183e850"},
		{api.Note{Kind: api.NOpen, Flow: 1 << 30, Port: 65535, Dport: 65535}, "01f040000000c0ffffc0ffff"},
		{api.Note{Kind: api.NMiss, Flow: 2, Index: 3}, "050203"},
		{api.Note{Kind: api.NDone, Flow: 2, Index: 300}, "0602812c"},
		{api.Note{Kind: api.NData, Flow: 7, Index: 2, Rec: r}, "0207020203" + sum + "03616263"},
		{api.Note{Kind: api.NData, Flow: 7, Index: 2, Rec: known}, "020702018100" + sum + "00"},
	} {
		got, e := record.Put(x.n)
		if e != api.OK || hex.EncodeToString(got) != x.want {
			t.Errorf("%v: %x and %d, not %s", x.n, got, int(e), x.want)
		}
		want, _ := hex.DecodeString(x.want)
		if n, e := record.Get(want); e != api.OK || !reflect.DeepEqual(n, x.n) {
			t.Errorf("%s: %v and %d, not %v", x.want, n, int(e), x.n)
		}
	}
}

// refused asks whether bytes are no note's.
func refused(t *testing.T, b []byte) {
	t.Helper()
	if n, e := record.Get(b); e != api.ErrRecord || !reflect.DeepEqual(n, api.Note{}) {
		t.Errorf("%x: %v and %d", b, n, int(e))
	}
}

func TestP10_2Refused(t *testing.T) {
	abc := sumOf([]byte("abc"))
	sum := hex.EncodeToString(abc[:])
	for _, x := range []string{
		"", "00", "03", "07", "0007", "0707", "800307", "ff0307", // no kind, or none of the table
		"0300", "0400", "03f040000001", "03ff0000010000000000", // a flow out of its range
		"03ffffffffffffffffffff",         // a number above all
		"038007", "03c00007", "80030780", // numbers in longer forms
		"0101", "0101e8", "010183e8", "0101c1000050", "010150c10000", "01010050", "01015000", // ports that are missing, or out of their range
		"0502", "050200", "0602", "060200", "0502f040000001", // no index, or one out of its range
		"030700", "030703", "010183e85000", "05020300", // something behind
		"0207020203" + sum + "0361626300",  // behind a record
		"0207020203" + sum + "036162",      // its data ends too early
		"0207020203" + sum + "03",          //
		"0207020203" + sum,                 //
		"0207020203" + sum[:62],            // its digest
		"02070202", "020702", "0207", "02", //
		"0207020203" + sum + "026162",                                           // a record that may not be
		"0207020003" + sum + "03616263",                                         //
		"0207020403" + sum + "03616263",                                         //
		"0207020200" + sum + "00",                                               //
		"0207020103" + sum + "03616263",                                         //
		"02070201810100" + sum + "00",                                           //
		"02070201c00003" + sum + "00",                                           // a size in a longer form
		"0207020203" + sum + "8003616263",                                       // its data's
		"0200020203" + sum + "03616263",                                         // a flow out of its range
		"0207000203" + sum + "03616263",                                         // an index
		"0207020303" + sum + "ffffffffffffffffffff",                             // data without end
		"0207020303" + sum + "ff7fffffffffffffff",                               //
		"020702038100" + sum + "8101" + string(bytes.Repeat([]byte("00"), 257)), // more data than may be
	} {
		b, err := hex.DecodeString(x)
		if err != nil {
			t.Fatal(x, err)
		}
		refused(t, b)
	}
	refused(t, nil)
	refused(t, make([]byte, 1<<20))
	refused(t, bytes.Repeat([]byte{3}, 1<<20))
}

// All short bytes: what is no note's, is refused; what is, is the only form of its note.
func TestP10_2Short(t *testing.T) {
	for x := range 1 << 16 {
		b := []byte{byte(x >> 8), byte(x)}
		for _, c := range [][]byte{b[:1], b, append(bytes.Clone(b), 1), append([]byte{1, 1}, b...), append([]byte{5}, b...)} {
			n, e := record.Get(c)
			if e != api.OK {
				refused(t, c)
			} else if plainFits(n) != api.OK || !bytes.Equal(plainPut(n), c) {
				t.Fatalf("%x: %v", c, n)
			}
		}
	}
}

func TestP10_3Opened(t *testing.T) {
	for _, b := range some() {
		r, e := record.Make(b, false)
		if got, f := record.Open(r); e != api.OK || f != api.OK || !bytes.Equal(got, b) {
			t.Fatalf("%x: %x, %d and %d", b, got, int(e), int(f))
		}
		r, e = record.Make(b, true)
		if e != api.OK || len(r.Data) != 0 {
			t.Fatalf("%x, known: %v and %d", b, r, int(e))
		}
	}
}

// mayBe is some notes that may be.
func mayBe() (l []api.Note) {
	for _, n := range notes() {
		if plainFits(n) == api.OK {
			l = append(l, n)
		}
	}
	for i, b := range some() {
		for _, known := range []bool{false, true} {
			r, _ := record.Make(b, known)
			l = append(l, api.Note{Kind: api.NData, Flow: 1 + i*i*600, Index: 1 + i, Rec: r})
		}
	}
	return l
}

func TestP10_4ThereAndBack(t *testing.T) {
	for _, n := range mayBe() {
		b, e := record.Put(n)
		if e != api.OK || len(b) > api.MaxBody {
			t.Fatalf("%v: %d bytes and %d", n, len(b), int(e))
		}
		if got, e := record.Get(b); e != api.OK || !same(got, n) {
			t.Fatalf("%v: %v and %d", n, got, int(e))
		}
	}
}

// Whichever byte is another one, what is read has the bytes from which it was read; what is cut, or has something behind it, is refused.
func TestP10_4Turned(t *testing.T) {
	for i, n := range mayBe() {
		if i%7 > 0 {
			continue
		}
		b, _ := record.Put(n)
		for at := range b {
			for _, turn := range []byte{1, 2, 4, 0x80, 0xff, byte(i) | 1} {
				c := bytes.Clone(b)
				c[at] ^= turn
				m, e := record.Get(c)
				if e != api.OK {
					refused(t, c)
					continue
				}
				if again, f := record.Put(m); f != api.OK || !bytes.Equal(again, c) || same(m, n) {
					t.Fatalf("%x: %v, and %x and %d again", c, m, again, int(f))
				}
			}
			refused(t, b[:at])
			refused(t, slices.Concat(b, b[:at+1]))
		}
	}
}

func TestP10_5Digest(t *testing.T) {
	shortened, _ := record.Make(make([]byte, 200), false)
	for _, r := range []api.Record{literal(chance(1, 200, 256)), literal([]byte("a")), shortened} {
		for i := range 3000 {
			x := chance(uint64(i), 4, 256)
			c := r
			c.Data = bytes.Clone(r.Data)
			c.Data[(int(x[0])<<8|int(x[1]))%len(c.Data)] ^= x[2]
			if i%3 == 0 {
				c.Size = 1 + int(x[3])
			}
			got, e := record.Open(c)
			if e == api.OK && (len(got) != c.Size || sumOf(got) != c.Sum) || e != api.OK && got != nil {
				t.Fatalf("%v: %x and %d", c, got, int(e))
			}
		}
	}
}

func TestP10_6Small(t *testing.T) {
	for _, b := range some() {
		for _, known := range []bool{false, true} {
			if r, e := record.Make(b, known); e != api.OK || len(r.Data) > len(b) || record.Check(r) != api.OK {
				t.Fatalf("%x: %v and %d", b, r, int(e))
			}
		}
	}
}

// What is called with bytes neither changes nor keeps them, nor shares them with its answer.
func TestMemoryIsNew(t *testing.T) {
	r := literal(chance(1, 90, 256))
	note, _ := record.Put(api.Note{Kind: api.NData, Flow: 1, Index: 1, Rec: r})
	for i, x := range []struct {
		given []byte
		call  func(b []byte) []byte
	}{
		{r.Data, func(b []byte) []byte {
			made, _ := record.Make(b, false)
			return made.Data
		}},
		{make([]byte, 90), func(b []byte) []byte {
			made, _ := record.Make(b, false)
			return made.Data
		}},
		{r.Data, func(b []byte) []byte {
			chunk, _ := record.Open(literal(b))
			return chunk
		}},
		{[]byte{0, 97, 0xbf, 1}, func(b []byte) []byte {
			chunk, _ := record.Open(api.Record{Kind: api.RLz, Size: 67, Sum: sumOf(bytes.Repeat([]byte("a"), 67)), Data: b})
			return chunk
		}},
		{r.Data, func(b []byte) []byte {
			put, _ := record.Put(api.Note{Kind: api.NData, Flow: 1, Index: 1, Rec: literal(b)})
			return put
		}},
		{note, func(b []byte) []byte {
			n, _ := record.Get(b)
			return n.Rec.Data
		}},
	} {
		whole := append(bytes.Clone(x.given), make([]byte, 300)...)
		before := bytes.Clone(whole)
		given := whole[:len(x.given)]
		got := x.call(given)
		want := bytes.Clone(got)
		if len(got) == 0 || !bytes.Equal(whole, before) {
			t.Errorf("call %d: nothing, or what was given was changed", i)
		}
		clear(whole)
		if !bytes.Equal(got, want) {
			t.Errorf("call %d: the answer shares what was given", i)
		}
		copy(whole, before)
		clear(got[:cap(got)])
		if !bytes.Equal(whole, before) || !bytes.Equal(x.call(given), want) {
			t.Errorf("call %d: what was given shares the answer", i)
		}
	}
}
