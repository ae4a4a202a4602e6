package mix

import (
	"bytes"
	"math"
	"math/big"
	"math/rand"
	"testing"
)

// The chapter's numbers.
const (
	golden  = 0x9e3779b97f4a7c15
	perByte = 0x100000001b3
	atEnd   = 0xbf58476d1ce4e5b9
)

// numbers are the edges of every width, those beside the chapter's numbers, and some by a fixed seed.
func numbers() []uint64 {
	ns := []uint64{0, math.MaxUint64}
	for _, p := range []uint64{golden, perByte, atEnd, 0x0123456789abcdef} {
		ns = append(ns, p-1, p, p+1, -p-1, -p, -p+1, ^p)
	}
	for k := range 64 {
		p := uint64(1) << k
		ns = append(ns, p-1, p, p+1, -p, -p-1)
	}
	r := rand.New(rand.NewSource(7))
	for range 100 {
		ns = append(ns, r.Uint64()>>r.Intn(64))
	}
	return ns
}

// rows are rows of bytes of no length, of some, and on both sides of every power of two.
func rows() [][]byte {
	l := [][]byte{nil, {}, {0}, {0, 0}, {255}, {128}, {0, 1}, {1, 0}, []byte("a"), []byte("ab"), []byte("ba")}
	r := rand.New(rand.NewSource(8))
	for _, n := range []int{3, 4, 5, 7, 8, 9, 15, 16, 17, 63, 64, 65, 255, 256, 257, 511, 512, 513, 70000} {
		b := make([]byte, n)
		r.Read(b)
		l = append(l, b, make([]byte, n), bytes.Repeat([]byte{255}, n))
	}
	return l
}

// modulo is what all counting is held to: 2^64.
var modulo = new(big.Int).Lsh(big.NewInt(1), 64)

// number is n without bounds.
func number(n uint64) *big.Int { return new(big.Int).SetUint64(n) }

// wantEnd is P7.1's End by numbers without bounds.
func wantEnd(h *big.Int) uint64 {
	h = new(big.Int).Xor(h, new(big.Int).Rsh(h, 29))
	h.Mul(h, number(atEnd)).Mod(h, modulo)
	return h.Xor(h, new(big.Int).Rsh(h, 32)).Uint64()
}

// wantKeyed is P7.1's Keyed by numbers without bounds.
func wantKeyed(key uint64, b []byte) uint64 {
	h := new(big.Int).Xor(number(key), number(golden))
	h.Add(h, big.NewInt(int64(len(b)))).Mod(h, modulo)
	for _, x := range b {
		h.Xor(h, big.NewInt(int64(x)))
		h.Mul(h, number(perByte)).Mod(h, modulo)
		turned := new(big.Int).Lsh(h, 23)
		over := new(big.Int).Rsh(turned, 64)
		h = turned.Mod(turned, modulo).Or(turned, over)
	}
	return wantEnd(h)
}

// wantNext is P7.1's Next by numbers without bounds.
func wantNext(n uint64) uint64 {
	h := number(n)
	h.Add(h, number(golden)).Mod(h, modulo)
	return wantEnd(h)
}

func TestKeyedOfKnownRows(t *testing.T) {
	all := make([]byte, 256)
	for i := range all {
		all[i] = byte(i)
	}
	for _, c := range []struct {
		key  uint64
		b    []byte
		want uint64
	}{
		{0, nil, 0xca009717f87d8879},
		{0, []byte{}, 0xca009717f87d8879},
		{1, nil, 0x8958de84c63adba3},
		{math.MaxUint64, nil, 0xe7284d5fd5555231},
		{golden, nil, 0},
		{golden, []byte{1}, 0},
		{0, []byte{0}, 0x1aa06076dfb7454d},
		{0, []byte{0, 0}, 0x8e6ec79193e013a9},
		{0, []byte{255}, 0xf0cfcd405f34b6e0},
		{0, []byte("a"), 0x2e76d7a4c9cf24ca},
		{0, []byte("ab"), 0x8d0047decb5fdcc7},
		{0, []byte("ba"), 0x0b408ab7d6bc3fd7},
		{1, []byte("a"), 0x5318debf825333c6},
		{1 << 63, []byte("seal"), 0x2401a4384d02864d},
		{^uint64(golden), []byte("a"), 0x3211d584df18634f}, // the length added to 2^64 - 1
		{math.MaxUint64, all, 0xe0cccad027272aaf},
		{0x0123456789abcdef, []byte("numbers out of bytes"), 0x62d6ca8b909d9669},
	} {
		if got := Keyed(c.key, c.b); got != c.want {
			t.Errorf("P7.1: Keyed(%x, %x): %x, not %x", c.key, c.b, got, c.want)
		}
	}
}

func TestKeyedByTheChaptersWords(t *testing.T) {
	ns := numbers()
	for i, b := range rows() {
		keys := ns
		if len(b) > 1000 {
			keys = ns[:3]
		}
		for _, key := range keys {
			if got, want := Keyed(key, b), wantKeyed(key, b); got != want {
				t.Fatalf("P7.1: Keyed(%x, row %d of %d bytes): %x, not %x", key, i, len(b), got, want)
			}
		}
	}
}

func TestSumIsKeyedByNothing(t *testing.T) {
	if Sum(nil) != wantEnd(number(golden)) || Sum(nil) != 0xca009717f87d8879 { // the chapter's example 1
		t.Errorf("P7.1: Sum(nil): %x", Sum(nil))
	}
	if Sum([]byte{}) != Sum(nil) {
		t.Errorf("R4: Sum of an empty row: %x, of nil %x", Sum([]byte{}), Sum(nil))
	}
	for i, b := range rows() {
		if got, want := Sum(b), wantKeyed(0, b); got != want {
			t.Errorf("P7.1: Sum of row %d of %d bytes: %x, not %x", i, len(b), got, want)
		}
	}
}

func TestKeyedByTwoKeysIsUnlike(t *testing.T) {
	// The chapter's example 2: each of the words' steps can be turned back, so of one row no two keys mix alike.
	for i, b := range rows() {
		if len(b) > 1000 {
			continue
		}
		keyOf := map[uint64]uint64{}
		for _, key := range numbers() {
			got := Keyed(key, b)
			if other, ok := keyOf[got]; ok && other != key {
				t.Fatalf("P7.1: row %d by %x and by %x: %x", i, key, other, got)
			}
			keyOf[got] = key
		}
	}
}

func TestKeyedAsksEveryByteAndItsPlace(t *testing.T) {
	b := []byte("a row of bytes, none of which is passed by")
	seen := map[uint64]bool{Sum(b): true}
	for i := range b {
		turned := bytes.Clone(b)
		for bit := range 8 {
			turned[i] = b[i] ^ 1<<bit
			if got := Sum(turned); seen[got] {
				t.Errorf("P7.1: Sum is the same with bit %d of byte %d turned", bit, i)
			} else {
				seen[got] = true
			}
		}
		if got := Sum(b[:i]); seen[got] {
			t.Errorf("P7.1: Sum is the same of the first %d bytes alone", i)
		} else {
			seen[got] = true
		}
	}
}

func TestKeyedKeepsToWhatItIsGiven(t *testing.T) {
	room := []byte("0123456789abcdef")
	given := room[2:6]
	want := Keyed(5, []byte("2345"))
	if got := Keyed(5, given); got != want {
		t.Errorf("P7.1: Keyed of a piece: %x, not %x", got, want)
	}
	if string(room) != "0123456789abcdef" {
		t.Errorf("R2: what was handed in is changed: %q", room)
	}
	copy(room, "................")
	copy(given, "2345")
	if got := Keyed(5, given); got != want || Sum(given) != Sum([]byte("2345")) {
		t.Errorf("R5: Keyed reads what stands about the piece: %x, not %x", got, want)
	}
	if got := Keyed(5, []byte("2345")); got != want {
		t.Errorf("R4: Keyed hangs on what came ahead of it: %x, not %x", got, want)
	}
}

func TestBytesAreTheHighestFirst(t *testing.T) {
	for _, c := range []struct {
		n    uint64
		want [8]byte
	}{
		{0, [8]byte{}},
		{5, [8]byte{7: 5}},
		{255, [8]byte{7: 255}},
		{256, [8]byte{6: 1}},
		{0x0102030405060708, [8]byte{1, 2, 3, 4, 5, 6, 7, 8}},
		{0xfedcba9876543210, [8]byte{0xfe, 0xdc, 0xba, 0x98, 0x76, 0x54, 0x32, 0x10}},
		{1 << 63, [8]byte{0x80}},
		{255 << 56, [8]byte{255}},
		{math.MaxUint64, [8]byte{255, 255, 255, 255, 255, 255, 255, 255}},
	} {
		if got := Bytes(c.n); got != c.want {
			t.Errorf("P7.1: Bytes(%x): %x, not %x", c.n, got, c.want)
		}
		if got := Number(c.want); got != c.n {
			t.Errorf("P7.1: Number(%x): %x, not %x", c.want, got, c.n)
		}
	}
}

func TestNumberIsBytesBack(t *testing.T) {
	if got := Number(Bytes(5)); got != 5 { // the chapter's run
		t.Errorf("P7.1: Number(Bytes(5)): %d", got)
	}
	for _, n := range numbers() {
		b := Bytes(n)
		if got := Number(b); got != n || Bytes(got) != b {
			t.Errorf("P7.1: Number(Bytes(%x)): %x", n, got)
		}
	}
	for i := range 8 { // each byte by itself, at its place
		for x := range 256 {
			var b [8]byte
			b[i] = byte(x)
			if got, want := Number(b), uint64(x)<<(8*(7-i)); got != want || Bytes(want) != b {
				t.Fatalf("P7.1: Number(%x): %x, not %x", b, got, want)
			}
		}
	}
}

func TestBytesAreByThemselves(t *testing.T) {
	first := Bytes(0x0102030405060708)
	first[0] = 99
	if second := Bytes(0x0102030405060708); second[0] != 1 {
		t.Errorf("R2: two answers share memory: %x", second)
	}
	b := [8]byte{1, 2, 3}
	Number(b)
	if b != [8]byte{1, 2, 3} {
		t.Errorf("R2: what was handed in is changed: %x", b)
	}
}

func TestNextOfKnownNumbers(t *testing.T) {
	for _, c := range []struct{ n, want uint64 }{
		{0, 0xca009717f87d8879},
		{1, 0x0aa84faa1f30761f},
		{5, 0x1284f68ca8598385},
		{math.MaxUint64, 0x8958de84c63adba3},
		{0x61c8864680b583eb, 0}, // the sum is 2^64 just
		{0x61c8864680b583ea, 0x18d8d23818d8d238},
		{1 << 63, 0xd66d0033e4101f5d},
		{0x0123456789abcdef, 0x39d4338288722c2e},
	} {
		if got := Next(c.n); got != c.want {
			t.Errorf("P7.1: Next(%x): %x, not %x", c.n, got, c.want)
		}
	}
	for _, n := range numbers() {
		if got, want := Next(n), wantNext(n); got != want {
			t.Errorf("P7.1: Next(%x): %x, not %x", n, got, want)
		}
	}
}

func TestNextGoesOn(t *testing.T) {
	for _, n := range []uint64{0, 1, 7, golden, math.MaxUint64} {
		seen := map[uint64]bool{}
		for i := range 5000 {
			if seen[n] {
				t.Fatalf("P7.1: Next comes to %x again behind %d steps", n, i)
			}
			seen[n] = true
			n = Next(n)
		}
	}
}
