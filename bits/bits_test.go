package bits

import (
	"bytes"
	"math"
	"math/big"
	"math/rand"
	"testing"

	"narthex/api"
)

// counts are places and widths on both sides of every edge, and some of any size.
func counts() []int {
	ks := []int{math.MinInt, math.MinInt + 1, -1 << 40, -1000, math.MaxInt, math.MaxInt - 1, 1 << 40, 1000}
	for k := -130; k <= 130; k++ {
		ks = append(ks, k)
	}
	return ks
}

// numbers are the edges of every width, and some by a fixed seed.
func numbers() []uint64 {
	ns := []uint64{0, math.MaxUint64}
	for k := range 64 {
		p := uint64(1) << k
		ns = append(ns, p-1, p, p+1, -p, -p-1)
	}
	r := rand.New(rand.NewSource(7))
	for range 200 {
		ns = append(ns, r.Uint64()>>r.Intn(64))
	}
	return ns
}

func TestSizeAtItsEdges(t *testing.T) {
	for _, c := range []struct {
		n    uint64
		want int
	}{
		{0, 1}, {1<<6 - 1, 1}, {1 << 6, 2}, {1<<14 - 1, 2}, {1 << 14, 4}, {1<<30 - 1, 4},
		{1 << 30, 8}, {api.MaxVar - 1, 8}, {api.MaxVar, 8}, {api.MaxVar + 1, 0}, {1 << 63, 0}, {math.MaxUint64, 0},
	} {
		if got := Size(c.n); got != c.want {
			t.Errorf("P1.1: Size(%d): %d, not %d", c.n, got, c.want)
		}
	}
}

func TestPutVarWritesTheHighestByteFirst(t *testing.T) {
	for _, c := range []struct {
		b    []byte
		n    uint64
		want []byte
	}{
		{nil, 494878333, []byte{0x9d, 0x7f, 0x3e, 0x7d}}, // the chapter's run
		{nil, 0, []byte{0}},
		{[]byte{}, 63, []byte{0x3f}},
		{[]byte{7}, 64, []byte{7, 0x40, 0x40}},
		{nil, 1<<14 - 1, []byte{0x7f, 0xff}},
		{[]byte{1, 2, 3}, 1 << 14, []byte{1, 2, 3, 0x80, 0, 0x40, 0}},
		{nil, 1<<30 - 1, []byte{0xbf, 0xff, 0xff, 0xff}},
		{nil, 1 << 30, []byte{0xc0, 0, 0, 0, 0x40, 0, 0, 0}},
		{nil, 0x0123456789abcdef, []byte{0xc1, 0x23, 0x45, 0x67, 0x89, 0xab, 0xcd, 0xef}},
		{nil, api.MaxVar, bytes.Repeat([]byte{0xff}, 8)},
	} {
		got, ok := PutVar(c.b, c.n)
		if !ok || !bytes.Equal(got, c.want) {
			t.Errorf("P1.1: PutVar(%x, %d): %x, %t, not %x", c.b, c.n, got, ok, c.want)
		}
	}
}

func TestPutVarRefusesAboveMaxVar(t *testing.T) {
	for _, n := range []uint64{api.MaxVar + 1, 1 << 63, math.MaxUint64} {
		for _, b := range [][]byte{nil, {}, {5}, []byte("ahead")} {
			got, ok := PutVar(b, n)
			if ok || !bytes.Equal(got, b) {
				t.Errorf("P1.1: PutVar(%x, %d): %x, %t", b, n, got, ok)
			}
		}
	}
}

func TestPutVarAnswersNewMemory(t *testing.T) {
	for _, n := range []uint64{1, 64, 1 << 14, 1 << 30, api.MaxVar + 1} {
		room := bytes.Repeat([]byte{0xaa}, 16)
		got, _ := PutVar(room[:3], n)
		if !bytes.Equal(room, bytes.Repeat([]byte{0xaa}, 16)) {
			t.Errorf("R2: PutVar(.., %d) wrote into what was handed in: %x", n, room)
		}
		again, _ := PutVar(room[:3], n)
		clear(got[:cap(got)])
		if !bytes.Equal(room, bytes.Repeat([]byte{0xaa}, 16)) || again[0] != 0xaa {
			t.Errorf("R2: PutVar(.., %d) shares its answer's memory", n)
		}
	}
}

func TestGetVarReadsWhicheverLength(t *testing.T) {
	for _, c := range []struct {
		b    []byte
		n    uint64
		size int
	}{
		{[]byte{0x25}, 37, 1},
		{[]byte{0x40, 0x25}, 37, 2},
		{[]byte{0x80, 0, 0, 0x25}, 37, 4},
		{[]byte{0xc0, 0, 0, 0, 0, 0, 0, 0x25}, 37, 8},
		{[]byte{0x40, 0}, 0, 2},
		{[]byte{0x25, 0xff, 0xff}, 37, 1},
		{[]byte{0x7b, 0xbd, 0xff}, 15293, 2},
		{[]byte{0x9d, 0x7f, 0x3e, 0x7d, 1}, 494878333, 4},
		{bytes.Repeat([]byte{0xff}, 9), api.MaxVar, 8},
	} {
		if n, size := GetVar(c.b); n != c.n || size != c.size {
			t.Errorf("P1.1: GetVar(%x): %d, %d, not %d, %d", c.b, n, size, c.n, c.size)
		}
	}
}

func TestGetVarOfTooFewBytes(t *testing.T) {
	if n, size := GetVar(nil); n != 0 || size != 0 {
		t.Errorf("P1.1: GetVar(nil): %d, %d", n, size)
	}
	for first := range 256 {
		whole := bytes.Repeat([]byte{byte(first)}, 8) // what lacks stands in the spare room
		need := []int{1, 2, 4, 8}[first/64]
		for have := range 9 {
			n, size := GetVar(whole[:have])
			if have < need && (n != 0 || size != 0) {
				t.Errorf("P1.1: GetVar(%x): %d, %d, though bytes lack", whole[:have], n, size)
			}
			if have >= need && size != need {
				t.Errorf("P1.1: GetVar(%x): %d bytes, not %d", whole[:have], size, need)
			}
		}
	}
}

func TestLow(t *testing.T) {
	for _, n := range numbers() {
		for _, k := range counts() {
			var want uint64
			for i := range min(max(k, 0), 64) {
				want |= n & (1 << i)
			}
			if got := Low(n, k); got != want {
				t.Fatalf("P1.2: Low(%x, %d): %x, not %x", n, k, got, want)
			}
		}
	}
}

func TestExtend(t *testing.T) {
	if got := Extend(255, 8); got != -1 { // the chapter's example 1
		t.Errorf("P1.2: Extend(255, 8): %d", got)
	}
	for _, n := range numbers() {
		for _, k := range counts() {
			var want uint64
			for i := range 64 {
				if k > 0 {
					want |= n >> min(i, k-1, 63) & 1 << i // the bit k-1 stands for all above it
				}
			}
			if got := Extend(n, k); got != int64(want) {
				t.Fatalf("P1.2: Extend(%x, %d): %d, not %d", n, k, got, int64(want))
			}
		}
	}
}

// turnedOnce is n turned left by one place.
func turnedOnce(n uint64) uint64 {
	if n >= 1<<63 {
		return 2*n + 1
	}
	return 2 * n
}

func TestRot(t *testing.T) {
	for _, n := range numbers() {
		var turned [64]uint64
		turned[0] = n
		for i := 1; i < 64; i++ {
			turned[i] = turnedOnce(turned[i-1])
		}
		for _, k := range counts() {
			want := turned[(k%64+64)%64]
			if got := Rot(n, k); got != want {
				t.Fatalf("P1.2: Rot(%x, %d): %x, not %x", n, k, got, want)
			}
		}
	}
}

func TestRotBelowZeroTurnsRight(t *testing.T) {
	if got := Rot(1, -1); got != 1<<63 {
		t.Errorf("P1.2: Rot(1, -1): %x", got)
	}
	if got := Rot(0x0123456789abcdef, -8); got != 0xef0123456789abcd {
		t.Errorf("P1.2: Rot(.., -8): %x", got)
	}
}

func TestZigAndZag(t *testing.T) {
	for _, c := range []struct {
		n    int64
		want uint64
	}{
		{0, 0}, {-1, 1}, {1, 2}, {-2, 3}, {2, 4}, {-300, 599}, {300, 600},
		{math.MaxInt64, math.MaxUint64 - 1}, {math.MinInt64, math.MaxUint64}, {math.MinInt64 + 1, math.MaxUint64 - 2},
	} {
		if got := Zig(c.n); got != c.want {
			t.Errorf("P1.2: Zig(%d): %d, not %d", c.n, got, c.want)
		}
		if got := Zag(c.want); got != c.n {
			t.Errorf("P1.2: Zag(%d): %d, not %d", c.want, got, c.n)
		}
	}
}

// nearest is the number nearest to n that k bits of two's complement hold, by numbers of any size.
func nearest(n int64, k int) int64 {
	end := new(big.Int).Lsh(big.NewInt(1), uint(min(max(k, 1), 64)-1))
	low := new(big.Int).Neg(end)
	high := new(big.Int).Sub(end, big.NewInt(1))
	x := big.NewInt(n)
	if x.Cmp(low) < 0 {
		x = low
	}
	if x.Cmp(high) > 0 {
		x = high
	}
	return x.Int64()
}

func TestClamp(t *testing.T) {
	if got := Clamp(300, 8); got != 127 { // the chapter's example 2
		t.Errorf("P1.2: Clamp(300, 8): %d", got)
	}
	for _, n := range numbers() {
		for _, k := range counts() {
			want := nearest(int64(n), k)
			if got := Clamp(int64(n), k); got != want {
				t.Fatalf("P1.2: Clamp(%d, %d): %d, not %d", int64(n), k, got, want)
			}
		}
	}
}

func TestWhatWasPutIsGot(t *testing.T) {
	for _, n := range numbers() {
		b, ok := PutVar([]byte("ahead"), n)
		if ok != (n <= api.MaxVar) {
			t.Errorf("P1.1: PutVar(.., %d): %t", n, ok)
		}
		if !ok {
			continue
		}
		got, size := GetVar(append(b[5:], 0xff))
		if string(b[:5]) != "ahead" || got != n || size != len(b)-5 || size != Size(n) {
			t.Errorf("P1.3: %d was put, %d got, of %d bytes", n, got, size)
		}
	}
}

func TestZagOfZigIsTheNumber(t *testing.T) {
	for _, n := range numbers() {
		if got := Zag(Zig(int64(n))); got != int64(n) {
			t.Errorf("P1.3: Zag of Zig of %d: %d", int64(n), got)
		}
		if got := Zig(Zag(n)); got != n {
			t.Errorf("P1.3: Zig of Zag of %d: %d", n, got)
		}
	}
}
