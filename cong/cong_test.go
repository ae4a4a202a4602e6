package cong

import (
	"math"
	"math/big"
	"math/rand"
	"testing"
)

// sizes are sizes of packets at which a reading changes, and their neighbours.
var sizes = []int{math.MinInt, math.MinInt + 1, -513, -512, -1, 0, 1, 2, 5, 6, 7, 255, 256, 257, 510, 511, 512, 513, 514, 1024, 1 << 30, 1 << 32, math.MaxInt - 1, math.MaxInt}

// times are clocks at which a reading changes, and their neighbours.
var times = []int64{math.MinInt64, math.MinInt64 + 1, -3, -2, -1, 0, 1, 2, 9, 10, 11, 1<<40 - 1, 1 << 40, 1<<40 + 1, math.MaxInt64 - 1, math.MaxInt64}

// Kinds of what a window is told.
const (
	acked = iota
	lost
	persist
)

// event is one thing that a window is told.
type event struct {
	kind, size int
	time, now  int64
}

// model is a window by the chapter's words, all that it was told kept: what it comes to is worked out anew at each question.
type model []event

// state is what the chapter names: Size, the threshold, since.
type state struct{ size, threshold, since int64 }

func (m model) state() state {
	s := state{size: 5120, threshold: 1073741824, since: -1}
	for _, e := range m {
		s = s.told(e)
	}
	return s
}

// told is the state behind e.
func (s state) told(e event) state {
	switch {
	case e.kind == persist:
		return state{size: 1024, threshold: s.threshold, since: -1}
	case e.time <= s.since:
		return s
	case e.kind == lost:
		half := s.size / 2
		if half < 1024 {
			half = 1024
		}
		return state{size: half, threshold: half, since: e.now}
	}
	size := int64(e.size)
	if e.size < 0 {
		size = 0
	}
	if e.size > 512 {
		size = 512
	}
	if s.size < s.threshold {
		s.size += size
	} else {
		s.size += 512 * size / s.size
	}
	if s.size > 1073741824 {
		s.size = 1073741824
	}
	return s
}

// may is May, by numbers without bounds.
func (s state) may(flight, size int) bool {
	sum := new(big.Int).Add(big.NewInt(int64(flight)), big.NewInt(int64(size)))
	return flight >= 0 && size >= 0 && sum.Cmp(big.NewInt(s.size)) <= 0
}

// tell tells w of e.
func tell(w *Window, e event) {
	switch e.kind {
	case acked:
		w.Acked(e.size, e.time)
	case lost:
		w.Lost(e.time, e.now)
	default:
		w.Persist()
	}
}

// told is a window, and the model of the same events.
func told(l ...event) (*Window, model) {
	w := New()
	for _, e := range l {
		tell(w, e)
	}
	return w, model(l)
}

// hold asks all that w answers against s.
func hold(t *testing.T, w *Window, s state, behind model) {
	t.Helper()
	if w.Size() != s.size || w.Slow() != (s.size < s.threshold) {
		t.Fatalf("P13.1: behind %v: Size %d, Slow %v, want %v", behind, w.Size(), w.Slow(), s)
	}
	n := int(s.size)
	for _, c := range [][2]int{{0, n}, {0, n + 1}, {n, 0}, {n + 1, 0}, {n - 512, 512}, {n - 512, 513}, {n - 511, 512}, {n, 1}, {1, n}, {-1, n}, {n, -1}} {
		if got := w.May(c[0], c[1]); got != s.may(c[0], c[1]) {
			t.Fatalf("P13.1: behind %v: of Size %d: May(%d, %d) %v", behind, n, c[0], c[1], got)
		}
	}
}

func TestNew(t *testing.T) {
	w := New()
	if w.Size() != 5120 || !w.Slow() {
		t.Errorf("P13.1: New: %d, %v", w.Size(), w.Slow())
	}
	if Least != 1024 {
		t.Errorf("P13.1: Least: %d", Least)
	}
	hold(t, w, model(nil).state(), nil)
}

// TestSince asks how since begins: -1 is not behind it, 0 is.
func TestSince(t *testing.T) {
	for _, n := range times {
		w, m := told(event{kind: acked, size: 512, time: n})
		if want := n > -1; (w.Size() == 5632) != want || (w.Size() == 5120) == want {
			t.Errorf("P13.1: Acked of the time %d: Size %d", n, w.Size())
		}
		hold(t, w, m.state(), m)
		w, m = told(event{kind: lost, time: n, now: 20})
		if want := n > -1; (w.Size() == 2560) != want || w.Slow() == want {
			t.Errorf("P13.1: Lost of the time %d: Size %d, Slow %v", n, w.Size(), w.Slow())
		}
		hold(t, w, m.state(), m)
	}
}

// TestMay holds all pairs of edges, of windows of unlike sizes.
func TestMay(t *testing.T) {
	for _, l := range [][]event{
		nil,
		{{kind: acked, size: 1, time: 0}},
		{{kind: lost, time: 0, now: 1}},
		{{kind: persist}},
	} {
		w, m := told(l...)
		s := m.state()
		n := int(s.size)
		asked := append([]int{n - 513, n - 512, n - 511, n - 1, n, n + 1, n / 2, n/2 + 1}, sizes...)
		for _, flight := range asked {
			for _, size := range asked {
				if got := w.May(flight, size); got != s.may(flight, size) {
					t.Errorf("P13.1: of Size %d: May(%d, %d) %v", n, flight, size, got)
				}
			}
		}
		hold(t, w, s, m)
	}
}

// TestNumbers holds rows of events against numbers that were worked out by hand.
func TestNumbers(t *testing.T) {
	for _, c := range []struct {
		told []event
		size int64
		slow bool
	}{
		// Slow: all that comes, and no more than a datagram of it.
		{[]event{{acked, 512, 0, 0}}, 5632, true},
		{[]event{{acked, 513, 0, 0}}, 5632, true},
		{[]event{{acked, math.MaxInt, 0, 0}}, 5632, true},
		{[]event{{acked, 511, 0, 0}}, 5631, true},
		{[]event{{acked, 1, 0, 0}}, 5121, true},
		{[]event{{acked, 0, 0, 0}}, 5120, true},
		{[]event{{acked, -1, 0, 0}}, 5120, true},
		{[]event{{acked, math.MinInt, 0, 0}}, 5120, true},
		// A loss halves, and what was sent till then counts no more.
		{[]event{{lost, 0, -1, 9}}, 5120, true},
		{[]event{{lost, 0, 5, 9}}, 2560, false},
		{[]event{{lost, 0, 5, 9}, {lost, 0, 7, 10}}, 2560, false},
		{[]event{{lost, 0, 5, 9}, {lost, 0, 9, 10}}, 2560, false},
		{[]event{{lost, 0, 5, 9}, {lost, 0, 10, 10}}, 1280, false},
		{[]event{{lost, 0, 5, 9}, {lost, 0, 10, 10}, {lost, 0, 11, 11}}, 1024, false},
		{[]event{{lost, 0, 5, 9}, {lost, 0, 10, 10}, {lost, 0, 11, 11}, {lost, 0, 12, 12}}, 1024, false},
		{[]event{{lost, 0, 5, 9}, {acked, 512, 9, 0}}, 2560, false},
		// Behind it: 512 by 512 by 2560 is 102.4.
		{[]event{{lost, 0, 5, 9}, {acked, 512, 10, 0}}, 2662, false},
		{[]event{{lost, 0, 5, 9}, {acked, 513, 10, 0}}, 2662, false},
		{[]event{{lost, 0, 5, 9}, {acked, -4, 10, 0}}, 2560, false},
		{[]event{{lost, 0, 5, 9}, {acked, 4, 10, 0}}, 2560, false},
		{[]event{{lost, 0, 5, 9}, {acked, 5, 10, 0}}, 2561, false},
		{[]event{{lost, 0, 5, 9}, {acked, 9, 10, 0}}, 2561, false},
		{[]event{{lost, 0, 5, 9}, {acked, 10, 10, 0}}, 2562, false},
		// Half of 5121 is cut off.
		{[]event{{acked, 1, 0, 0}, {lost, 0, 5, 9}}, 2560, false},
		{[]event{{acked, 2, 0, 0}, {lost, 0, 5, 9}}, 2561, false},
		// since is now, and not the time of what was lost.
		{[]event{{lost, 0, 5, 9}, {acked, 512, 6, 0}}, 2560, false},
		{[]event{{lost, 0, 9, 5}, {acked, 512, 6, 0}}, 2662, false},
		// Persist: the threshold stays 2^30 where nothing was lost.
		{[]event{{persist, 0, 0, 0}}, 1024, true},
		{[]event{{persist, 0, 0, 0}, {acked, 512, 0, 0}}, 1536, true},
		{[]event{{persist, 0, 0, 0}, {lost, 0, 0, 1}}, 1024, false},
		// And since is -1 again.
		{[]event{{lost, 0, 5, 9}, {persist, 0, 0, 0}}, 1024, true},
		{[]event{{lost, 0, 5, 9}, {persist, 0, 0, 0}, {acked, 512, 0, 0}}, 1536, true},
		{[]event{{lost, 0, 5, 9}, {persist, 0, 0, 0}, {acked, 512, -1, 0}}, 1024, true},
		{[]event{{lost, 0, 5, 9}, {persist, 0, 0, 0}, {lost, 0, 0, 4}, {acked, 512, 5, 0}}, 1280, false},
		// Up to the threshold of 2560 and past it by all that comes, then by less.
		{[]event{{lost, 0, 5, 9}, {persist, 0, 0, 0}, {acked, 512, 0, 0}, {acked, 512, 0, 0}, {acked, 511, 0, 0}}, 2559, true},
		{[]event{{lost, 0, 5, 9}, {persist, 0, 0, 0}, {acked, 512, 0, 0}, {acked, 512, 0, 0}, {acked, 512, 0, 0}}, 2560, false},
		{[]event{{lost, 0, 5, 9}, {persist, 0, 0, 0}, {acked, 512, 0, 0}, {acked, 512, 0, 0}, {acked, 511, 0, 0}, {acked, 512, 0, 0}}, 3071, false},
		{[]event{{lost, 0, 5, 9}, {persist, 0, 0, 0}, {acked, 512, 0, 0}, {acked, 512, 0, 0}, {acked, 511, 0, 0}, {acked, 512, 0, 0}, {acked, 512, 0, 0}}, 3156, false},
	} {
		w, m := told(c.told...)
		if w.Size() != c.size || w.Slow() != c.slow {
			t.Errorf("P13.1: behind %v: Size %d, Slow %v, want %d, %v", c.told, w.Size(), w.Slow(), c.size, c.slow)
		}
		hold(t, w, m.state(), m)
	}
}

// TestSizes holds every size of a packet, while slow and behind a loss.
func TestSizes(t *testing.T) {
	all := append([]int{}, sizes...)
	for n := -20; n < 600; n++ {
		all = append(all, n)
	}
	for _, ahead := range [][]event{nil, {{lost, 0, 0, 0}}, {{lost, 0, 0, 0}, {lost, 0, 1, 1}, {lost, 0, 2, 2}}, {{persist, 0, 0, 0}}} {
		for _, n := range all {
			w, m := told(append(append([]event{}, ahead...), event{acked, n, 3, 0}, event{acked, n, 3, 0})...)
			hold(t, w, m.state(), m)
		}
	}
}

// TestLost holds losses of windows of every size from New's on: odd ones are cut off, and none falls below Least.
func TestLost(t *testing.T) {
	for n := range 512 {
		w, m := told(event{acked, n, 0, 0}, event{lost, 0, 0, 4}, event{lost, 0, 5, 5}, event{lost, 0, 6, 6})
		hold(t, w, m.state(), m)
		if w.Size() != 1024 || w.Slow() {
			t.Errorf("P13.1: three losses behind %d: %d, %v", 5120+n, w.Size(), w.Slow())
		}
		// Grown past Least, but not twice as far: half of it would be less.
		w.Acked(512, 7)
		if w.Size() != 1280 {
			t.Errorf("P13.1: Acked behind Least: %d", w.Size())
		}
		if w.Lost(8, 8); w.Size() != 1024 {
			t.Errorf("P13.1: Lost of 1280: %d", w.Size())
		}
	}
}

// TestTimes holds every loss at an edge, and what is told of any time behind it.
func TestTimes(t *testing.T) {
	for _, time := range times {
		for _, now := range times {
			for _, next := range times {
				one := event{lost, 0, time, now}
				for _, l := range []model{
					{one, {acked, 512, next, 0}},
					{one, {lost, 0, next, next}},
					{one, {persist, 0, 0, 0}, {acked, 512, next, 0}},
					{one, {persist, 0, 0, 0}, {lost, 0, next, 3}, {acked, 512, now, 0}},
				} {
					w, m := told(l...)
					hold(t, w, m.state(), m)
				}
			}
		}
	}
}

// TestAll holds every row of five events out of a few, step by step.
func TestAll(t *testing.T) {
	few := []event{{acked, 512, 0, 0}, {acked, 7, 6, 0}, {acked, 900, 4, 0}, {acked, -9, 9, 0}, {lost, 0, 0, 3}, {lost, 0, 3, 5}, {lost, 0, 4, 4}, {persist, 0, 0, 0}}
	var walk func(l model)
	walk = func(l model) {
		w, m := told(l...)
		hold(t, w, m.state(), m)
		if len(l) == 5 {
			return
		}
		for _, e := range few {
			walk(append(l[:len(l):len(l)], e))
		}
	}
	walk(nil)
}

// TestRows holds long rows of events, step by step.
func TestRows(t *testing.T) {
	r := rand.New(rand.NewSource(13))
	for range 200 {
		w, m := New(), model(nil)
		clock := int64(0)
		for range 300 {
			clock += r.Int63n(4)
			e := event{kind: acked, size: r.Intn(600) - 20, time: clock - r.Int63n(40), now: clock}
			switch r.Intn(60) {
			case 0, 1:
				e.kind = lost
			case 2:
				e.kind = persist
			case 3:
				e.size = sizes[r.Intn(len(sizes))]
			}
			tell(w, e)
			m = append(m, e)
			hold(t, w, m.state(), m)
			if w.Size() < Least || w.Size() > 1<<30 {
				t.Fatalf("P13.1: behind %v: Size %d", m, w.Size())
			}
		}
	}
}

// TestGreatest asks where the window ends, and what is told of it there.
func TestGreatest(t *testing.T) {
	w, s := New(), model(nil).state()
	one := event{acked, 512, 0, 0}
	// 5120 and so many datagrams are 2^30 on the spot.
	const datagrams = 2097142
	for i := range datagrams {
		if i == datagrams-1 {
			hold(t, w, s, nil)
		}
		tell(w, one)
		s = s.told(one)
	}
	hold(t, w, s, nil)
	if w.Size() != 1<<30 || w.Slow() {
		t.Fatalf("P13.1: the greatest: %d, %v", w.Size(), w.Slow())
	}
	// From there all that comes is less than a whole byte more.
	for range 10 {
		tell(w, one)
		s = s.told(one)
	}
	hold(t, w, s, nil)
	for _, e := range []event{{lost, 0, 1, 1}, {acked, 512, 2, 0}, {lost, 0, 3, 3}, {lost, 0, 4, 4}, {persist, 0, 0, 0}, one} {
		tell(w, e)
		s = s.told(e)
		hold(t, w, s, model{e})
	}
}

// TestOver asks that a step which would lead past 2^30 ends there.
func TestOver(t *testing.T) {
	for _, n := range []int{1, 256, 511} {
		w, s := New(), model(nil).state()
		w.Acked(n, 0)
		s = s.told(event{acked, n, 0, 0})
		one := event{acked, 512, 0, 0}
		for i := 0; w.Slow() && i < 2097142; i++ {
			tell(w, one)
			s = s.told(one)
		}
		if w.Size() != 1<<30 || w.Slow() {
			t.Errorf("P13.1: the greatest behind %d: %d, %v", n, w.Size(), w.Slow())
		}
		hold(t, w, s, nil)
	}
}

// TestRound asks that what comes behind a loss makes about a datagram more in a round, however large the window.
func TestRound(t *testing.T) {
	w := New()
	w.Lost(0, 0)
	for round := int64(1); round < 200; round++ {
		ahead := w.Size()
		for left := ahead; left > 0; left -= 512 {
			w.Acked(int(min(left, 512)), round)
		}
		if more := w.Size() - ahead; more <= 0 || more > 512 {
			t.Fatalf("P13.1: round %d: %d more than %d", round, more, ahead)
		}
	}
}

// TestAlone asks that no window sees what another one is told, and that asking changes nothing.
func TestAlone(t *testing.T) {
	a, b, c := New(), New(), New()
	a.Acked(100, 5)
	b.Lost(0, 3)
	for range 3 {
		hold(t, a, model{{acked, 100, 5, 0}}.state(), nil)
		hold(t, b, model{{lost, 0, 0, 3}}.state(), nil)
		hold(t, c, model(nil).state(), nil)
	}
	a.Persist()
	hold(t, a, model{{persist, 0, 0, 0}}.state(), nil)
	hold(t, b, model{{lost, 0, 0, 3}}.state(), nil)
	hold(t, New(), model(nil).state(), nil)
}
