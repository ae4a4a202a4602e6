package pnum

import (
	"math"
	"math/big"
	"math/rand"
	"testing"

	"narthex/api"
)

// widths are some on both sides of every edge, and some of any size.
var widths = []int{math.MinInt, math.MinInt + 1, -1 << 40, -8, -1, 0, 1, 2, 3, 4, 5, 8, 64, 1 << 40, math.MaxInt - 1, math.MaxInt}

// numbers are the edges of every width, and some by a fixed seed.
func numbers() []uint64 {
	ns := []uint64{0, math.MaxUint64}
	for k := range 64 {
		p := uint64(1) << k
		ns = append(ns, p-1, p, p+1, p+p/2, -p, -p-1)
	}
	r := rand.New(rand.NewSource(3))
	for range 100 {
		ns = append(ns, r.Uint64()>>r.Intn(64))
	}
	return ns
}

// bounded is width as the chapter takes it.
func bounded(width int) int {
	switch {
	case width < 1:
		return 1
	case width > 4:
		return 4
	}
	return width
}

// wantWidth is P3.1 by numbers without bounds.
func wantWidth(n, acked uint64, has bool) int {
	d := new(big.Int).SetUint64(n)
	if has && acked < n {
		d.Sub(d, new(big.Int).SetUint64(acked))
	} else {
		d.Add(d, big.NewInt(1))
	}
	twice := d.Lsh(d, 1)
	for w := 1; w <= 4; w++ {
		if twice.Cmp(new(big.Int).Lsh(big.NewInt(1), uint(8*w))) <= 0 {
			return w
		}
	}
	return 4
}

// wantWhole is P3.2 by numbers without bounds.
func wantWhole(largest uint64, has bool, low uint32, width int) uint64 {
	power := func(k int) *big.Int { return new(big.Int).Lsh(big.NewInt(1), uint(k)) }
	plus := func(a, b *big.Int) *big.Int { return new(big.Int).Add(a, b) }
	minus := func(a, b *big.Int) *big.Int { return new(big.Int).Sub(a, b) }
	next := big.NewInt(0)
	if has {
		next = plus(new(big.Int).SetUint64(min(largest, api.MaxVar)), big.NewInt(1))
	}
	win, half := power(8*bounded(width)), power(8*bounded(width)-1)
	c := minus(next, new(big.Int).Mod(next, win))
	c = plus(c, new(big.Int).Mod(new(big.Int).SetUint64(uint64(low)), win))
	switch {
	case plus(c, half).Cmp(next) <= 0 && c.Cmp(minus(power(62), win)) < 0:
		c = plus(c, win)
	case c.Cmp(plus(next, half)) > 0 && c.Cmp(win) >= 0:
		c = minus(c, win)
	}
	return c.Uint64()
}

func TestWidthAtItsEdges(t *testing.T) {
	for _, c := range []struct {
		n, acked uint64
		has      bool
		want     int
	}{
		{0, 0, false, 1}, // the chapter's example
		{126, 0, false, 1}, {127, 0, false, 1}, {128, 0, false, 2},
		{1<<15 - 1, 0, false, 2}, {1 << 15, 0, false, 3},
		{1<<23 - 1, 0, false, 3}, {1 << 23, 0, false, 4},
		{1<<31 - 1, 0, false, 4}, {1 << 31, 0, false, 4}, {1 << 32, 0, false, 4},
		{1, 0, true, 1}, {128, 0, true, 1}, {129, 0, true, 2},
		{1 << 15, 0, true, 2}, {1<<15 + 1, 0, true, 3},
		{1 << 23, 0, true, 3}, {1<<23 + 1, 0, true, 4},
		{1 << 31, 0, true, 4}, {1<<31 + 1, 0, true, 4},
		{5000, 4999, true, 1}, {5000, 4872, true, 1}, {5000, 4871, true, 2},
		{api.MaxVar, api.MaxVar - 128, true, 1}, {api.MaxVar, api.MaxVar - 129, true, 2},
	} {
		if got := Width(c.n, c.acked, c.has); got != c.want {
			t.Errorf("P3.1: Width(%d, %d, %t): %d, not %d", c.n, c.acked, c.has, got, c.want)
		}
	}
}

func TestWidthWithoutWhatIsAcknowledgedBelow(t *testing.T) {
	for _, c := range []struct {
		n, acked uint64
		has      bool
		want     int
	}{
		{127, 127, true, 1}, {128, 128, true, 2}, {127, 128, true, 1}, {128, math.MaxUint64, true, 2},
		{0, 0, true, 1}, {0, math.MaxUint64, true, 1},
		{5000, 4999, false, 2}, {1 << 20, 1<<20 - 1, false, 3}, // without has, acked is not asked
	} {
		if got := Width(c.n, c.acked, c.has); got != c.want {
			t.Errorf("P3.1: Width(%d, %d, %t): %d, not %d", c.n, c.acked, c.has, got, c.want)
		}
	}
}

func TestWidthAboveMaxVar(t *testing.T) {
	for _, n := range []uint64{api.MaxVar, api.MaxVar + 1, 1 << 63, math.MaxUint64 - 1, math.MaxUint64} {
		for _, acked := range []uint64{n, math.MaxUint64} {
			for _, has := range []bool{false, true} {
				if has && acked < n || acked == math.MaxUint64 && n > math.MaxUint64-128 {
					continue
				}
				if got := Width(n, acked, has); got != 4 {
					t.Errorf("P3.1: Width(%d, %d, %t): %d, not 4", n, acked, has, got)
				}
			}
		}
	}
	// The greatest n, and one more, must not come round to 0.
	if got := Width(math.MaxUint64, 0, false); got != 4 {
		t.Errorf("P3.1: Width of the greatest number: %d, not 4", got)
	}
	if got := Width(math.MaxUint64, math.MaxUint64, true); got != 4 {
		t.Errorf("P3.1: Width of the greatest number, acknowledged: %d, not 4", got)
	}
	if got := Width(math.MaxUint64, math.MaxUint64-128, true); got != 1 {
		t.Errorf("P3.1: Width of a near one above MaxVar: %d, not 1", got)
	}
}

func TestWidthByNumbersWithoutBounds(t *testing.T) {
	for _, n := range numbers() {
		for _, acked := range numbers() {
			for _, has := range []bool{false, true} {
				if got, want := Width(n, acked, has), wantWidth(n, acked, has); got != want {
					t.Fatalf("P3.1: Width(%d, %d, %t): %d, not %d", n, acked, has, got, want)
				}
			}
		}
	}
}

func TestCutKeepsTheLowestBits(t *testing.T) {
	for _, c := range []struct {
		n     uint64
		width int
		want  uint32
	}{
		{0x0123456789abcdef, 1, 0xef}, {0x0123456789abcdef, 2, 0xcdef},
		{0x0123456789abcdef, 3, 0xabcdef}, {0x0123456789abcdef, 4, 0x89abcdef},
		{0x0123456789abcdef, 0, 0xef}, {0x0123456789abcdef, -1, 0xef}, {0x0123456789abcdef, math.MinInt, 0xef},
		{0x0123456789abcdef, 5, 0x89abcdef}, {0x0123456789abcdef, 8, 0x89abcdef}, {0x0123456789abcdef, math.MaxInt, 0x89abcdef},
		{0, 4, 0}, {256, 1, 0}, {1 << 16, 2, 0}, {1 << 24, 3, 0}, {1 << 32, 4, 0},
		{math.MaxUint64, 1, 0xff}, {math.MaxUint64, 4, math.MaxUint32},
	} {
		if got := Cut(c.n, c.width); got != c.want {
			t.Errorf("P3.1: Cut(%x, %d): %x, not %x", c.n, c.width, got, c.want)
		}
	}
	for _, n := range numbers() {
		for _, width := range widths {
			want := uint32(n % (1 << (8 * bounded(width))))
			if got := Cut(n, width); got != want {
				t.Fatalf("P3.1: Cut(%x, %d): %x, not %x", n, width, got, want)
			}
		}
	}
}

func TestWholeAtItsEdges(t *testing.T) {
	for _, c := range []struct {
		largest uint64
		has     bool
		low     uint32
		width   int
		want    uint64
	}{
		{0xa82f30ea, true, 0x9b32, 2, 0xa82f9b32}, // the chapter's run
		{0, false, 5, 1, 5},                       // the chapter's example
		{0, true, 0, 1, 0}, {0, true, 1, 1, 1}, {0, true, 129, 1, 129}, {0, true, 130, 1, 130}, {0, true, 255, 1, 255},
		{9999, false, 7, 2, 7}, {math.MaxUint64, false, 255, 1, 255}, // without has, largest is not asked
		// Up by a window just where c + half is next.
		{127, true, 0, 1, 256}, {126, true, 0, 1, 0}, {383, true, 0, 1, 512}, {382, true, 0, 1, 256},
		// Down by a window only where c is above next + half.
		{299, true, 172, 1, 428}, {299, true, 173, 1, 173}, {255, true, 128, 1, 384}, {255, true, 129, 1, 129},
		// Never below 0.
		{0, true, 0xffff, 2, 0xffff}, {100, true, 0xffffff, 3, 0xffffff}, {5, true, math.MaxUint32, 4, math.MaxUint32},
		{1<<16 - 1, true, 0x8000, 2, 0x18000}, {1<<16 - 1, true, 0x8001, 2, 0x8001},
		{1<<24 - 1, true, 0x800000, 3, 0x1800000}, {1<<24 - 1, true, 0x800001, 3, 0x800001},
		{1<<32 - 1, true, 0x80000000, 4, 0x180000000}, {1<<32 - 1, true, 0x80000001, 4, 0x80000001},
	} {
		if got := Whole(c.largest, c.has, c.low, c.width); got != c.want {
			t.Errorf("P3.2: Whole(%d, %t, %d, %d): %d, not %d", c.largest, c.has, c.low, c.width, got, c.want)
		}
	}
}

func TestWholeNearMaxVar(t *testing.T) {
	const top = api.MaxVar + 1
	for _, c := range []struct {
		largest uint64
		low     uint32
		width   int
		want    uint64
	}{
		{top - 1 - 256, 0, 1, top - 256},
		{top - 1 - 128, 0, 1, top - 256}, // c + half is next, but a window higher there is no number
		{top - 2, 0, 1, top - 256}, {top - 2, 255, 1, top - 1},
		{top - 257, 255, 1, top - 257},
		{top - 1 - 512 + 128, 0, 1, top - 256}, // the last c that goes up
		{top - 1, 0, 1, top}, {top - 1, 128, 1, top + 128}, {top - 1, 129, 1, top - 127}, {top - 1, 255, 1, top - 1},
		{top - 1, 0, 4, top}, {top - 1, 1 << 31, 4, top + 1<<31}, {top - 1, 1<<31 + 1, 4, top - 1<<31 + 1},
		{top, 0, 1, top}, {top, 255, 1, top - 1}, {math.MaxUint64, 7, 1, top + 7}, {math.MaxUint64, 0xffff, 2, top - 1},
		{1 << 63, 3, 3, top + 3},
	} {
		if got := Whole(c.largest, true, c.low, c.width); got != c.want {
			t.Errorf("P3.2: Whole(%d, true, %d, %d): %d, not %d", c.largest, c.low, c.width, got, c.want)
		}
	}
}

func TestWholeTakesLowAndWidthOfAnySize(t *testing.T) {
	for _, c := range []struct {
		low   uint32
		width int
		want  uint64
	}{
		{0xffffff05, 1, 0x1005}, {0xffff1005, 2, 0x1005}, {0xff001005, 3, 0x1005},
		{0x05, 0, 0x1005}, {0x05, -7, 0x1005}, {0x05, math.MinInt, 0x1005},
		{0x1005, 5, 0x1005}, {0x1005, math.MaxInt, 0x1005},
	} {
		if got := Whole(0x1000, true, c.low, c.width); got != c.want {
			t.Errorf("P3.2: Whole(1000, true, %x, %d): %x, not %x", c.low, c.width, got, c.want)
		}
	}
}

func TestWholeByNumbersWithoutBounds(t *testing.T) {
	lows := []uint32{0, 1, 127, 128, 129, 255, 256, 1<<15 - 1, 1 << 15, 1<<15 + 1, 1<<16 - 1, 1 << 23, 1<<23 + 1, 1<<24 - 1, 1<<31 - 1, 1 << 31, 1<<31 + 1, math.MaxUint32}
	for _, largest := range numbers() {
		for _, low := range lows {
			for _, width := range widths {
				for _, has := range []bool{false, true} {
					if got, want := Whole(largest, has, low, width), wantWhole(largest, has, low, width); got != want {
						t.Fatalf("P3.2: Whole(%d, %t, %d, %d): %d, not %d", largest, has, low, width, got, want)
					}
				}
			}
		}
	}
}

// holders are the largest numbers of those who have any from acked on, but not n.
func holders(acked, n uint64) []uint64 {
	return []uint64{acked, acked + (n-acked)/2, n - 1}
}

func TestCutAndMadeWholeIsItself(t *testing.T) {
	far := []uint64{1, 2, 127, 128, 129, 255, 256, 1<<15 - 1, 1 << 15, 1<<15 + 1, 1<<23 - 1, 1 << 23, 1<<23 + 1, 1<<31 - 1, 1 << 31}
	for _, acked := range numbers() {
		for _, d := range far {
			if acked > api.MaxVar-d {
				continue
			}
			n := acked + d
			width := Width(n, acked, true)
			for _, largest := range holders(acked, n) {
				if got := Whole(largest, true, Cut(n, width), width); got != n {
					t.Fatalf("P3.3: %d by %d, %d bytes, behind %d: %d", n, acked, width, largest, got)
				}
			}
		}
	}
}

func TestCutAndMadeWholeUpToMaxVar(t *testing.T) {
	for d := uint64(1); d <= 600; d++ {
		for _, n := range []uint64{api.MaxVar, api.MaxVar - 1, api.MaxVar - 255, api.MaxVar - 256, api.MaxVar - 300} {
			width := Width(n, n-d, true)
			for _, largest := range holders(n-d, n) {
				if got := Whole(largest, true, Cut(n, width), width); got != n {
					t.Fatalf("P3.3: %d by %d, behind %d: %d", n, n-d, largest, got)
				}
			}
		}
	}
}

func TestCutAndMadeWholeWithNothingAcknowledged(t *testing.T) {
	for n := uint64(0); n < 1<<17; n++ {
		width := Width(n, 0, false)
		low := Cut(n, width)
		if got := Whole(0, false, low, width); got != n {
			t.Fatalf("P3.3: %d to whom has none: %d", n, got)
		}
		for _, largest := range []uint64{0, n / 2, n - 1} {
			if n == 0 || largest >= n {
				continue
			}
			if got := Whole(largest, true, low, width); got != n {
				t.Fatalf("P3.3: %d behind %d: %d", n, largest, got)
			}
		}
	}
	for _, n := range numbers() {
		if n == 0 || n > api.MaxVar {
			continue
		}
		width := Width(n, 0, false)
		if got := Whole(n-1, true, Cut(n, width), width); got != n {
			t.Fatalf("P3.3: %d to whom has all ahead of it: %d", n, got)
		}
	}
}
