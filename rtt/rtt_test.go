package rtt

import (
	"math"
	"math/rand"
	"testing"
)

// edges are times at which a sample's reading changes, and their neighbours.
var edges = []int64{math.MinInt64, math.MinInt64 + 1, -4097, -4096, -8, -1, 0, 1, 2, 3, 4, 7, 8, 9, 15, 16, 100, 2047, 2048, 4094, 4095, 4096, 4097, 8192, 1 << 40, math.MaxInt64 - 1, math.MaxInt64}

// backoffs are counts at which a period's reading changes, and their neighbours.
var backoffs = []int{math.MinInt, math.MinInt + 1, -64, -7, -6, -1, 0, 1, 2, 3, 4, 5, 6, 7, 8, 9, 62, 63, 64, 65, 1 << 32, math.MaxInt - 1, math.MaxInt}

// model is an estimator by the chapter's words, all samples kept: what they come to is worked out anew at each question.
type model []int64

// counted are the samples, each as what it counts as.
func (m model) counted() []int64 {
	var l []int64
	for _, t := range m {
		if t < 0 {
			t = 0
		}
		if t > 4096 {
			t = 4096
		}
		l = append(l, t)
	}
	return l
}

// both are Smoothed and Var.
func (m model) both() (smoothed, spread int64) {
	l := m.counted()
	if len(l) == 0 {
		return 10, 5
	}
	smoothed, spread = l[0], l[0]/2
	for _, t := range l[1:] {
		apart := smoothed - t
		if apart < 0 {
			apart = -apart
		}
		spread = (3*spread + apart) / 4
		smoothed = (7*smoothed + t) / 8
	}
	return smoothed, spread
}

// least is the least sample.
func (m model) least() (int64, bool) {
	l := m.counted()
	if len(l) == 0 {
		return 0, false
	}
	least := l[0]
	for _, t := range l {
		if t < least {
			least = t
		}
	}
	return least, true
}

// period is Period(backoff), doubled step by step.
func (m model) period(backoff int) int64 {
	smoothed, spread := m.both()
	p := smoothed + 2
	if 4*spread > 1 {
		p += 4 * spread
	} else {
		p++
	}
	for i := 0; i < backoff && i < 6; i++ {
		p *= 2
	}
	return p
}

// told is an estimator, and the model of the same samples.
func told(l ...int64) (*Estimator, model) {
	e := New()
	for _, t := range l {
		e.Sample(t)
	}
	return e, model(l)
}

// hold asks all that e answers against m.
func hold(t *testing.T, e *Estimator, m model) {
	t.Helper()
	smoothed, spread := m.both()
	if e.Smoothed() != smoothed || e.Var() != spread {
		t.Fatalf("P12.1: behind %d: Smoothed %d, Var %d, want %d, %d", m, e.Smoothed(), e.Var(), smoothed, spread)
	}
	n, ok := e.Least()
	if want, has := m.least(); n != want || ok != has {
		t.Fatalf("P12.1: behind %d: Least %d, %v, want %d, %v", m, n, ok, want, has)
	}
	for _, k := range backoffs {
		if got, want := e.Period(k), m.period(k); got != want {
			t.Fatalf("P12.2: behind %d: Period(%d) %d, want %d", m, k, got, want)
		}
	}
}

func TestNew(t *testing.T) {
	e := New()
	n, ok := e.Least()
	if e.Smoothed() != 10 || e.Var() != 5 || n != 0 || ok {
		t.Errorf("P12.1: New: %d %d %d %v", e.Smoothed(), e.Var(), n, ok)
	}
	if e.Period(0) != 32 {
		t.Errorf("P12.2: New: Period(0) %d", e.Period(0))
	}
	hold(t, e, nil)
}

// TestNumbers holds rows of samples against numbers that were worked out by hand.
func TestNumbers(t *testing.T) {
	for _, c := range []struct {
		samples                         []int64
		smoothed, spread, least, period int64
	}{
		{[]int64{8}, 8, 4, 8, 26},
		{[]int64{0}, 0, 0, 0, 3},
		{[]int64{1}, 1, 0, 1, 4},
		{[]int64{2}, 2, 1, 2, 8},
		{[]int64{9}, 9, 4, 9, 27},
		{[]int64{-1}, 0, 0, 0, 3},
		{[]int64{4096}, 4096, 2048, 4096, 12290},
		{[]int64{4097}, 4096, 2048, 4096, 12290},
		// Var 3 * 4 + 8, by 4: from the 8 that was held, not from the 9 that comes of it.
		{[]int64{8, 16}, 9, 5, 8, 31},
		{[]int64{16, 8}, 15, 8, 8, 49},
		// 7 * 8 + 15 and 3 * 4 + 7 are cut off.
		{[]int64{8, 15}, 8, 4, 8, 26},
		{[]int64{8, 8}, 8, 3, 8, 22},
		{[]int64{0, 7}, 0, 1, 0, 6},
		{[]int64{0, 3}, 0, 0, 0, 3},
		{[]int64{0, 8}, 1, 2, 0, 11},
		{[]int64{0, 4096}, 512, 1024, 0, 4610},
		{[]int64{4096, 0}, 3584, 2560, 0, 13826},
		{[]int64{4096, 0, 4096}, 3648, 2048, 0, 11842},
		{[]int64{4096, math.MinInt64}, 3584, 2560, 0, 13826},
		{[]int64{0, math.MaxInt64}, 512, 1024, 0, 4610},
	} {
		e, m := told(c.samples...)
		n, ok := e.Least()
		if e.Smoothed() != c.smoothed || e.Var() != c.spread || n != c.least || !ok || e.Period(0) != c.period {
			t.Errorf("P12.1: behind %d: %d %d %d %v %d, want %v", c.samples, e.Smoothed(), e.Var(), n, ok, e.Period(0), c)
		}
		hold(t, e, m)
	}
}

// TestFirst asks that the first sample takes the place of the guesses.
func TestFirst(t *testing.T) {
	for n := int64(-20); n < 4200; n++ {
		holdFirst(t, n)
	}
	for _, n := range edges {
		holdFirst(t, n)
	}
}

// holdFirst holds one sample, and the same one twice.
func holdFirst(t *testing.T, n int64) {
	t.Helper()
	e, m := told(n)
	hold(t, e, m)
	e, m = told(n, n)
	hold(t, e, m)
}

// TestThree holds every row of three small samples.
func TestThree(t *testing.T) {
	const most = 18
	for a := int64(-1); a < most; a++ {
		for b := int64(-1); b < most; b++ {
			for c := int64(-1); c < most; c++ {
				e, m := told(a, b, c)
				hold(t, e, m)
			}
		}
	}
}

// TestEdges holds every row of three edges.
func TestEdges(t *testing.T) {
	for _, a := range edges {
		for _, b := range edges {
			for _, c := range edges {
				e, m := told(a, b, c)
				hold(t, e, m)
			}
		}
	}
}

// TestRows holds long rows of samples, step by step.
func TestRows(t *testing.T) {
	r := rand.New(rand.NewSource(12))
	for range 60 {
		e, m := New(), model(nil)
		wide := int64(1) << (1 + r.Intn(14))
		for range 120 {
			n := r.Int63n(wide) - wide/16
			if r.Intn(20) == 0 {
				n = edges[r.Intn(len(edges))]
			}
			e.Sample(n)
			m = append(m, n)
			hold(t, e, m)
		}
	}
}

// TestLeast asks that the least sample stays, however many greater ones follow.
func TestLeast(t *testing.T) {
	e := New()
	for _, c := range []struct{ n, least int64 }{{4000, 4000}, {4000, 4000}, {50, 50}, {51, 50}, {49, 49}, {4096, 49}, {1, 1}, {0, 0}, {-7, 0}, {3, 0}} {
		e.Sample(c.n)
		if n, ok := e.Least(); n != c.least || !ok {
			t.Errorf("P12.1: behind Sample(%d): Least %d, %v, want %d", c.n, n, ok, c.least)
		}
	}
	for range 500 {
		e.Sample(4096)
	}
	if n, ok := e.Least(); n != 0 || !ok {
		t.Errorf("P12.1: behind many: Least %d, %v", n, ok)
	}
	// A least of 0 that came is not a least that lacks.
	e, _ = told(0)
	if n, ok := e.Least(); n != 0 || !ok {
		t.Errorf("P12.1: behind Sample(0): Least %d, %v", n, ok)
	}
}

// TestSteady asks where samples that are all the same lead: a Smoothed that is theirs, and a Var that dwindles.
func TestSteady(t *testing.T) {
	for _, n := range []int64{0, 1, 9, 100, 4095, 4096} {
		e := New()
		for range 60 {
			e.Sample(n)
		}
		if e.Smoothed() != n || e.Var() != 0 || e.Period(0) != n+3 {
			t.Errorf("P12.1: %d over and over: %d %d %d", n, e.Smoothed(), e.Var(), e.Period(0))
		}
	}
}

func TestPeriod(t *testing.T) {
	e := New()
	for k, want := range map[int]int64{math.MinInt: 32, -1: 32, 0: 32, 1: 64, 2: 128, 3: 256, 4: 512, 5: 1024, 6: 2048, 7: 2048, 9: 2048, 64: 2048, 1 << 32: 2048, math.MaxInt: 2048} {
		if got := e.Period(k); got != want {
			t.Errorf("P12.2: Period(%d) %d, want %d", k, got, want)
		}
	}
	// The least period of all: a Var of 0 counts as 1 there.
	e, _ = told(0)
	if e.Period(0) != 3 || e.Period(6) != 192 {
		t.Errorf("P12.2: behind Sample(0): %d, %d", e.Period(0), e.Period(6))
	}
	e, _ = told(4096)
	if e.Period(9) != e.Period(6) || e.Period(6) != 12290*64 {
		t.Errorf("P12.2: behind Sample(4096): Period(9) %d, Period(6) %d", e.Period(9), e.Period(6))
	}
}

// TestAlone asks that no estimator sees what another one is told, and that asking changes nothing.
func TestAlone(t *testing.T) {
	a, b, c := New(), New(), New()
	a.Sample(100)
	b.Sample(7)
	for range 3 {
		hold(t, a, model{100})
		hold(t, b, model{7})
		hold(t, c, nil)
	}
	a.Sample(3)
	hold(t, a, model{100, 3})
	hold(t, b, model{7})
	hold(t, New(), nil)
}
