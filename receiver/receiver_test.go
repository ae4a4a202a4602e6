package receiver

import (
	"bytes"
	"math"
	"math/rand"
	"testing"

	"narthex/api"
	"narthex/frame"
	"narthex/sender"
)

// far is more than any number that is asked here.
const far = math.MaxUint64

// step is one thing that a receiver is told, by the name of the call.
type step struct {
	call string
	f    api.Frame
	n    int    // most or room
	code uint64 // of Stop
}

func on(f api.Frame) step               { return step{call: "On", f: f} }
func read(most int) step                { return step{call: "Read", n: most} }
func stop(code uint64) step             { return step{call: "Stop", code: code} }
func next(room int) step                { return step{call: "Next", n: room} }
func lost(f api.Frame) step             { return step{call: "Lost", f: f} }
func behind(l []step, s ...step) []step { return append(l[:len(l):len(l)], s...) }

// part is a Stream frame of the stream 5.
func part(off uint64, data string) api.Frame {
	return api.Frame{Kind: api.Stream, Stream: 5, Offset: off, Data: []byte(data)}
}

// last is one behind which the stream ends.
func last(off uint64, data string) api.Frame {
	f := part(off, data)
	f.Fin = true
	return f
}

// given is a Reset frame of the stream 5.
func given(code, final uint64) api.Frame {
	return api.Frame{Kind: api.Reset, Stream: 5, Code: code, Final: final}
}

// stops is a Stop frame of the stream 5.
func stops(code uint64) api.Frame {
	return api.Frame{Kind: api.Stop, Stream: 5, Code: code}
}

// more is a MaxStreamData frame of the stream 5.
func more(limit uint64) api.Frame {
	return api.Frame{Kind: api.MaxStreamData, Stream: 5, Limit: limit}
}

// told is what Next tells.
type told struct {
	f  api.Frame
	ok bool
}

// yes is what Next tells of f.
func yes(f api.Frame) told { return told{f, true} }

// same is whether a and b tell the same, and a has no other field set than what its Kind asks.
func same(a, b told) bool {
	return a.ok == b.ok && frame.Same(a.f, b.f) && bare(a.f)
}

// bare is whether f has nothing in the fields that a Stop and a MaxStreamData don't ask, and nothing at all where it has no Kind.
func bare(f api.Frame) bool {
	switch f.Kind {
	case api.Stop:
		f.Stream, f.Code = 0, 0
	case api.MaxStreamData:
		f.Stream, f.Limit = 0, 0
	}
	numbers := f.Stream | f.Offset | f.Limit | f.Code | f.Final | f.Seq | f.Delay
	return numbers == 0 && len(f.Data) == 0 && !f.Fin && len(f.Ranges) == 0 && f.CID == api.CID{}
}

// got is what Read tells.
type got struct {
	data string
	end  bool
	code uint64
	why  api.Errno
}

// take is what r tells by Read.
func take(r *Receiver, most int) got {
	b, end, code, why := r.Read(most)
	return got{string(b), end, code, why}
}

// model is a receiver by the chapters' words: every byte that ever came is kept, and the state is made out of what is known.
type model struct {
	id, window, limit uint64
	came              map[uint64]byte
	took, top, final  uint64 // Read, Highest and Final of inbuf
	known, ended      bool
	reset, resetTold  bool
	code, size        uint64 // of the Reset
	asked, due, again bool
	stop              uint64
}

// fresh is a model of nothing.
func fresh(id, window uint64) *model {
	if window > 2048 {
		window = 2048
	}
	return &model{id: id, window: window, limit: window, came: map[uint64]byte{}}
}

// state is the chapter's.
func (m *model) state() int {
	switch {
	case m.resetTold:
		return 6
	case m.reset:
		return 5
	case m.ended:
		return 4
	case !m.known:
		return 1
	}
	for n := m.took; n < m.final; n++ {
		if _, ok := m.came[n]; !ok {
			return 2
		}
	}
	return 3
}

// highest is the chapter's.
func (m *model) highest() uint64 {
	if m.reset {
		return m.size
	}
	return m.top
}

// taken is the chapter's.
func (m *model) taken() uint64 {
	if m.reset {
		return m.size
	}
	return m.took
}

// on is P17.1.
func (m *model) on(f api.Frame) api.Errno {
	switch {
	case f.Stream != m.id || f.Kind != 8 && f.Kind != 4:
		return api.ErrArg
	case f.Kind == 4:
		return m.onReset(f)
	}
	end := f.Offset + uint64(len(f.Data))
	if end < f.Offset || end > m.limit {
		return api.ErrOver
	}
	if m.reset {
		if end > m.size || f.Fin && end != m.size {
			return api.ErrFinal
		}
		return api.OK
	}
	return m.add(f, end)
}

// onReset is P17.1 of a Reset.
func (m *model) onReset(f api.Frame) api.Errno {
	switch {
	case f.Final > m.limit:
		return api.ErrOver
	case m.known && f.Final != m.final, m.reset && f.Final != m.size, f.Final < m.highest():
		return api.ErrFinal
	}
	if s := m.state(); s == 1 || s == 2 {
		m.reset, m.code, m.size = true, f.Code, f.Final
	}
	return api.OK
}

// add is inbuf.Add.
func (m *model) add(f api.Frame, end uint64) api.Errno {
	switch {
	case f.Offset > 1<<40 || len(f.Data) > 512:
		return api.ErrArg
	case m.known && (end > m.final || f.Fin && end != m.final), f.Fin && end < m.top:
		return api.ErrFinal
	case end > m.took+2048:
		return api.ErrOver
	}
	for i, b := range f.Data {
		if _, ok := m.came[f.Offset+uint64(i)]; !ok {
			m.came[f.Offset+uint64(i)] = b
		}
	}
	m.top = max(m.top, end)
	if f.Fin {
		m.known, m.final = true, end
	}
	return api.OK
}

// read is P17.2's Read.
func (m *model) read(most int) got {
	switch m.state() {
	case 5:
		m.resetTold = true
		return got{"", false, m.code, api.ErrReset}
	case 4, 6:
		return got{why: api.ErrState}
	}
	var b []byte
	for len(b) < most {
		c, ok := m.came[m.took]
		if !ok {
			break
		}
		b = append(b, c)
		m.took++
	}
	end := m.known && m.took == m.final
	if len(b) == 0 && !end {
		return got{why: api.ErrBlock}
	}
	m.ended = end
	return got{data: string(b), end: end}
}

// stopIt is P17.2's Stop.
func (m *model) stopIt(code uint64) api.Errno {
	if m.state() > 2 || m.asked {
		return api.ErrState
	}
	if code > 1<<62-1 {
		return api.ErrArg
	}
	m.asked, m.due, m.stop = true, true, code
	return api.OK
}

// next is P17.3's Next.
func (m *model) next(room int) told {
	s := m.state()
	if m.due && s <= 2 {
		f := api.Frame{Kind: 5, Stream: m.id, Code: m.stop}
		if b, _ := frame.Encode(f); len(b) > room {
			return told{}
		}
		m.due = false
		return yes(f)
	}
	half := m.window / 2
	if half == 0 {
		half = 1
	}
	f := api.Frame{Kind: 17, Stream: m.id, Limit: m.took + m.window}
	if b, _ := frame.Encode(f); s != 1 || !m.again && f.Limit < m.limit+half || len(b) > room {
		return told{}
	}
	m.again, m.limit = false, f.Limit
	return yes(f)
}

// lose is P17.3's Lost.
func (m *model) lose(f api.Frame) {
	if f.Stream != m.id {
		return
	}
	if f.Kind == 5 && m.asked && m.state() <= 2 {
		m.due = true
	}
	if f.Kind == 17 && f.Limit == m.limit {
		m.again = true
	}
}

// ask is what r tells by Next, which must have room in what it was asked for, and be a frame that may be.
func ask(t *testing.T, r *Receiver, room int) told {
	t.Helper()
	f, ok := r.Next(room)
	if ok && (!frame.Right(f) || frame.Size(f) > room) {
		t.Fatalf("P17.3: Next(%d): %d bytes: %+v", room, frame.Size(f), f)
	}
	return told{f, ok}
}

// tell tells both of what there is to tell and holds their answers against each other.
func tell(t *testing.T, r *Receiver, m *model, x step) {
	t.Helper()
	switch x.call {
	case "On":
		if is, want := r.On(x.f), m.on(x.f); is != want {
			t.Fatalf("P17.1: On(%+v): %v, want %v", x.f, is, want)
		}
	case "Read":
		if is, want := take(r, x.n), m.read(x.n); is != want {
			t.Fatalf("P17.2: Read(%d): %+v, want %+v", x.n, is, want)
		}
	case "Stop":
		if is, want := r.Stop(x.code), m.stopIt(x.code); is != want {
			t.Fatalf("P17.2: Stop(%d): %v, want %v", x.code, is, want)
		}
	case "Next":
		if is, want := ask(t, r, x.n), m.next(x.n); !same(is, want) {
			t.Fatalf("P17.3: Next(%d): %+v, want %+v", x.n, is, want)
		}
	case "Lost":
		m.lose(x.f)
		r.Lost(x.f)
	}
}

// alike holds every answer of r that changes nothing against the model's, and that no more came than what may.
func alike(t *testing.T, r *Receiver, m *model, behind any) {
	t.Helper()
	if r.State() != m.state() || r.Limit() != m.limit || r.Highest() != m.highest() || r.Taken() != m.taken() {
		t.Fatalf("P17: behind %+v: State %d, Limit %d, Highest %d, Taken %d, want %d, %d, %d, %d", behind, r.State(), r.Limit(), r.Highest(), r.Taken(), m.state(), m.limit, m.highest(), m.taken())
	}
	if r.Taken() > r.Highest() || r.Highest() > r.Limit() || r.Limit() > m.took+m.window {
		t.Fatalf("W3: behind %+v: Taken %d, Highest %d, Limit %d, window %d", behind, r.Taken(), r.Highest(), r.Limit(), m.window)
	}
}

// run tells a new receiver of the stream 5, with a window of 10, and a new model of l, and holds them against each other behind each step.
func run(t *testing.T, l ...step) (*Receiver, *model) {
	t.Helper()
	r, m := New(5, 10), fresh(5, 10)
	alike(t, r, m, nil)
	for i, x := range l {
		tell(t, r, m, x)
		alike(t, r, m, l[:i+1])
	}
	return r, m
}

// drain asks both for all that is left to be sent and to be read.
func drain(t *testing.T, r *Receiver, m *model, behind any) {
	t.Helper()
	for n := 0; ; n++ {
		is, want := ask(t, r, 99), m.next(99)
		if !same(is, want) {
			t.Fatalf("P17.3: behind %+v: Next: %+v, want %+v", behind, is, want)
		}
		took, should := take(r, 7), m.read(7)
		if took != should {
			t.Fatalf("P17.2: behind %+v: Read: %+v, want %+v", behind, took, should)
		}
		alike(t, r, m, behind)
		if !is.ok && (took.why == api.ErrBlock || took.why == api.ErrState) {
			return
		}
		if n > 9000 {
			t.Fatalf("P17: behind %+v: no end", behind)
		}
	}
}

// long is n bytes, none like its neighbours, and other ones for another from.
func long(n, from int) string {
	b := make([]byte, n)
	for i := range b {
		b[i] = byte((from + i) % 251)
	}
	return string(b)
}

// at are the steps to every state, by its number, in more ways than one; a Stop was asked in some.
func at() []struct {
	state int
	l     []step
} {
	some := []step{on(part(0, "abc")), on(part(6, "gh"))}
	all := []step{on(last(0, "abcdefgh"))}
	return []struct {
		state int
		l     []step
	}{
		{Recv, nil},
		{Recv, some},
		{Recv, behind(some, read(2))},
		{Recv, behind(some, stop(7))},
		{Recv, behind(some, stop(7), next(99))},
		{Recv, []step{on(part(0, "abcdefgh")), read(6)}},
		{Recv, []step{on(part(0, "abcdefgh")), read(6), next(99)}},
		{Recv, []step{on(part(0, "abcdefgh")), read(8), next(99), lost(more(18))}},
		{Sized, behind(some, on(last(8, "")))},
		{Sized, behind(some, on(last(9, "j")), read(9))},
		{Sized, behind(some, stop(7), on(last(8, "")))},
		{Sized, behind(some, stop(7), next(99), on(last(8, "")))},
		{Sized, behind(some, read(3), on(last(8, "")), stop(7), next(99), lost(stops(7)))},
		{Whole, all},
		{Whole, behind(all, read(7))},
		{Whole, []step{on(last(0, ""))}},
		{Whole, behind([]step{stop(7)}, all...)},
		{Whole, behind(some, on(last(8, "")), stop(7), next(99), on(part(3, "def")))},
		{Read, behind(all, read(8))},
		{Read, []step{on(last(0, "")), read(0)}},
		{Read, []step{stop(7), next(99), on(part(0, "abc")), read(3), on(last(3, "")), read(0)}},
		{ResetRecvd, []step{on(given(9, 0))}},
		{ResetRecvd, behind(some, on(given(9, 8)))},
		{ResetRecvd, behind(some, read(9), on(given(9, 10)))},
		{ResetRecvd, behind(some, stop(7), on(last(8, "")), on(given(9, 8)))},
		{ResetRead, behind(some, on(given(9, 8)), read(9))},
		{ResetRead, behind(some, stop(7), next(99), on(last(8, "")), on(given(9, 8)), read(0))},
	}
}

func TestRun(t *testing.T) {
	r := New(0, 9)
	if r.Limit() != 9 || r.State() != Recv || r.Highest() != 0 || r.Taken() != 0 {
		t.Errorf("P17: the run: %d, %d, %d, %d", r.Limit(), r.State(), r.Highest(), r.Taken())
	}
	if Recv != 1 || Sized != 2 || Whole != 3 || Read != 4 || ResetRecvd != 5 || ResetRead != 6 {
		t.Error("P17: the states' numbers")
	}
	if why := r.On(api.Frame{Kind: api.Stream, Data: []byte("abcdefghij")}); why != api.ErrOver {
		t.Errorf("P17.1: example 1: %v", why)
	}
	if x := take(New(0, 9), 5); x != (got{why: api.ErrBlock}) {
		t.Errorf("P17.2: example 2: %+v", x)
	}
}

// TestWindow asks windows of all sizes: MaxBuffer at most, and just so many bytes may come.
func TestWindow(t *testing.T) {
	for _, window := range []uint64{0, 1, 2, 511, 512, 513, 2047, 2048, 2049, 4096, 1 << 40, 1 << 63, far} {
		want := min(window, 2048)
		r := New(5, window)
		if r.Limit() != want {
			t.Errorf("P17: window %d: Limit %d, want %d", window, r.Limit(), want)
		}
		if why := r.On(part(want+1, "")); why != api.ErrOver {
			t.Errorf("P17.1: window %d: one byte above: %v", window, why)
		}
		if why := r.On(given(0, want+1)); why != api.ErrOver {
			t.Errorf("P17.1: window %d: a Reset one byte above: %v", window, why)
		}
		if r.Highest() != 0 || r.State() != Recv {
			t.Errorf("R3: window %d: Highest %d, State %d", window, r.Highest(), r.State())
		}
		if why := r.On(part(want, "")); why != api.OK || r.Highest() != want {
			t.Errorf("P17.1: window %d: up to it: %v, Highest %d", window, why, r.Highest())
		}
		if why := r.On(given(0, want)); why != api.OK || r.State() != ResetRecvd || r.Limit() != want {
			t.Errorf("P17.1: window %d: a Reset up to it: %v, State %d", window, why, r.State())
		}
	}
}

// TestOn holds On, its refusals and their order against rows that were worked out by hand.
func TestOn(t *testing.T) {
	some := []step{on(part(0, "abc")), on(part(6, "gh"))}
	sized := behind(some, on(last(8, "")))
	all := []step{on(last(0, "abcdefgh"))}
	gone := behind(some, on(given(9, 8)))
	for i, c := range []struct {
		ahead   []step
		f       api.Frame
		want    api.Errno
		state   int
		highest uint64
	}{
		// ErrOver: the end is above Limit, which moves as it is told alone.
		{nil, part(0, "abcdefghij"), api.OK, Recv, 10},
		{nil, part(0, "abcdefghijk"), api.ErrOver, Recv, 0},
		{nil, part(9, "j"), api.OK, Recv, 10},
		{nil, part(9, "jk"), api.ErrOver, Recv, 0},
		{nil, part(10, ""), api.OK, Recv, 10},
		{nil, part(11, ""), api.ErrOver, Recv, 0},
		{nil, last(11, ""), api.ErrOver, Recv, 0},
		{nil, last(9, "jk"), api.ErrOver, Recv, 0},
		{nil, given(0, 10), api.OK, ResetRecvd, 10},
		{nil, given(0, 11), api.ErrOver, Recv, 0},
		{behind(some, read(3)), part(10, "k"), api.ErrOver, Recv, 8},
		{behind(some, read(3), next(99)), part(10, "k"), api.ErrOver, Recv, 8},
		{[]step{on(part(0, "abcde")), read(5)}, part(10, "k"), api.ErrOver, Recv, 5},
		{[]step{on(part(0, "abcde")), read(5), next(99)}, part(10, "klmno"), api.OK, Recv, 15},
		{[]step{on(part(0, "abcde")), read(5), next(99)}, part(10, "klmnop"), api.ErrOver, Recv, 5},
		{[]step{on(part(0, "abcde")), read(5), next(99)}, given(1, 15), api.OK, ResetRecvd, 15},
		{[]step{on(part(0, "abcde")), read(5), next(99)}, given(1, 16), api.ErrOver, Recv, 5},
		// ErrOver goes ahead of all others.
		{nil, part(1<<40+1, ""), api.ErrOver, Recv, 0},
		{nil, part(0, long(513, 0)), api.ErrOver, Recv, 0},
		{nil, part(far, "ab"), api.ErrOver, Recv, 0},
		{nil, last(far-1, "ab"), api.ErrOver, Recv, 0},
		{sized, part(11, ""), api.ErrOver, Sized, 8},
		{sized, last(0, "abcdefghijk"), api.ErrOver, Sized, 8},
		{sized, given(9, 11), api.ErrOver, Sized, 8},
		{all, part(8, "ijk"), api.ErrOver, Whole, 8},
		{behind(all, read(9)), part(8, "ijk"), api.ErrOver, Read, 8},
		{behind(all, read(9)), given(9, 11), api.ErrOver, Read, 8},
		{gone, part(8, "ijk"), api.ErrOver, ResetRecvd, 8},
		{gone, given(9, 11), api.ErrOver, ResetRecvd, 8},
		{behind(gone, read(9)), last(9, "jk"), api.ErrOver, ResetRead, 8},
		{behind(gone, read(9)), given(9, far), api.ErrOver, ResetRead, 8},
		// A Stream: what inbuf refuses, and what it knows.
		{nil, part(0, ""), api.OK, Recv, 0},
		{nil, part(4, ""), api.OK, Recv, 4},
		{nil, last(0, ""), api.OK, Whole, 0},
		{nil, last(4, ""), api.OK, Sized, 4},
		{nil, last(0, "abcd"), api.OK, Whole, 4},
		{nil, last(1, "bcd"), api.OK, Sized, 4},
		{some, part(1, "bcd"), api.OK, Recv, 8},
		{some, last(7, ""), api.ErrFinal, Recv, 8},
		{some, last(0, "abcdefg"), api.ErrFinal, Recv, 8},
		{some, last(8, ""), api.OK, Sized, 8},
		{some, last(3, "defgh"), api.OK, Whole, 8},
		{some, last(9, ""), api.OK, Sized, 9},
		{behind(some, on(part(3, "def"))), last(8, ""), api.OK, Whole, 8},
		{behind(some, on(part(3, "def")), read(99)), last(8, ""), api.OK, Whole, 8},
		{sized, part(3, "de"), api.OK, Sized, 8},
		{sized, part(3, "def"), api.OK, Whole, 8},
		{sized, part(8, ""), api.OK, Sized, 8},
		{sized, part(9, ""), api.ErrFinal, Sized, 8},
		{sized, part(7, "hi"), api.ErrFinal, Sized, 8},
		{sized, last(7, ""), api.ErrFinal, Sized, 8},
		{sized, last(9, ""), api.ErrFinal, Sized, 8},
		{sized, last(7, "h"), api.OK, Sized, 8},
		{all, part(8, "i"), api.ErrFinal, Whole, 8},
		{all, last(0, "abc"), api.ErrFinal, Whole, 8},
		{all, part(0, "abc"), api.OK, Whole, 8},
		{all, last(0, "zzzzzzzz"), api.OK, Whole, 8},
		{behind(all, read(9)), part(0, "abc"), api.OK, Read, 8},
		{behind(all, read(9)), last(8, ""), api.OK, Read, 8},
		{behind(all, read(9)), last(7, ""), api.ErrFinal, Read, 8},
		{behind(all, read(9)), part(9, ""), api.ErrFinal, Read, 8},
		// A Reset, where the final size is not known.
		{nil, given(9, 0), api.OK, ResetRecvd, 0},
		{nil, given(9, 7), api.OK, ResetRecvd, 7},
		{some, given(9, 7), api.ErrFinal, Recv, 8},
		{some, given(9, 0), api.ErrFinal, Recv, 8},
		{some, given(9, 8), api.OK, ResetRecvd, 8},
		{some, given(9, 10), api.OK, ResetRecvd, 10},
		{behind(some, read(99)), given(9, 3), api.ErrFinal, Recv, 8},
		{behind(some, on(part(3, "def"))), given(9, 8), api.OK, ResetRecvd, 8},
		{[]step{on(part(9, ""))}, given(9, 8), api.ErrFinal, Recv, 9},
		// A Reset, where it is known.
		{sized, given(9, 7), api.ErrFinal, Sized, 8},
		{sized, given(9, 9), api.ErrFinal, Sized, 8},
		{sized, given(9, 8), api.OK, ResetRecvd, 8},
		{all, given(9, 7), api.ErrFinal, Whole, 8},
		{all, given(9, 9), api.ErrFinal, Whole, 8},
		{all, given(9, 8), api.OK, Whole, 8},
		{behind(all, read(9)), given(9, 7), api.ErrFinal, Read, 8},
		{behind(all, read(9)), given(9, 9), api.ErrFinal, Read, 8},
		{behind(all, read(9)), given(9, 8), api.OK, Read, 8},
		{gone, given(9, 7), api.ErrFinal, ResetRecvd, 8},
		{gone, given(9, 9), api.ErrFinal, ResetRecvd, 8},
		{gone, given(9, 8), api.OK, ResetRecvd, 8},
		{behind(gone, read(0)), given(9, 7), api.ErrFinal, ResetRead, 8},
		{behind(gone, read(0)), given(9, 9), api.ErrFinal, ResetRead, 8},
		{behind(gone, read(0)), given(9, 8), api.OK, ResetRead, 8},
		// A Stream behind a Reset.
		{gone, part(0, "zzzzzzzz"), api.OK, ResetRecvd, 8},
		{gone, part(3, "def"), api.OK, ResetRecvd, 8},
		{gone, part(8, ""), api.OK, ResetRecvd, 8},
		{gone, part(9, ""), api.ErrFinal, ResetRecvd, 8},
		{gone, part(7, "hi"), api.ErrFinal, ResetRecvd, 8},
		{gone, last(7, ""), api.ErrFinal, ResetRecvd, 8},
		{gone, last(7, "h"), api.OK, ResetRecvd, 8},
		{gone, last(8, ""), api.OK, ResetRecvd, 8},
		{gone, last(9, ""), api.ErrFinal, ResetRecvd, 8},
		{behind(gone, read(0)), part(0, "abcdefgh"), api.OK, ResetRead, 8},
		{behind(gone, read(0)), part(8, "i"), api.ErrFinal, ResetRead, 8},
		{behind(gone, read(0)), last(0, "abc"), api.ErrFinal, ResetRead, 8},
		{behind(gone, read(0)), last(0, "abcdefgh"), api.OK, ResetRead, 8},
	} {
		r, m := run(t, c.ahead...)
		if why := r.On(c.f); why != c.want || r.State() != c.state || r.Highest() != c.highest {
			t.Errorf("P17.1: row %d: %v, State %d, Highest %d, want %v, %d, %d", i, why, r.State(), r.Highest(), c.want, c.state, c.highest)
		}
		if c.want == api.OK {
			m.on(c.f)
		}
		alike(t, r, m, i)
		drain(t, r, m, i)
	}
}

// TestWide asks On with the greatest window, where inbuf's own refusals are seen.
func TestWide(t *testing.T) {
	for i, c := range []struct {
		off  uint64
		n    int
		want api.Errno
	}{
		{0, 512, api.OK}, {0, 513, api.ErrArg}, {1536, 512, api.OK}, {1537, 512, api.ErrOver}, {1535, 513, api.ErrArg}, {1536, 513, api.ErrOver}, {0, 2048, api.ErrArg}, {0, 2049, api.ErrOver}, {2048, 0, api.OK}, {2049, 0, api.ErrOver},
	} {
		r := New(5, far)
		if why := r.On(part(c.off, long(c.n, 0))); why != c.want {
			t.Errorf("P17.1: row %d: %v, want %v", i, why, c.want)
		}
	}
	r := New(5, 2048)
	r.On(given(1, 2048))
	if r.On(part(0, long(513, 0))) != api.OK || r.On(part(0, long(2048, 0))) != api.OK || r.On(part(1, long(2048, 0))) != api.ErrOver {
		t.Error("P17.1: long ones behind a Reset")
	}
}

// TestOthers tells every state of frames of other streams and Kinds: ErrArg, and nothing is changed.
func TestOthers(t *testing.T) {
	for i, c := range at() {
		r, m := run(t, c.l...)
		if r.State() != c.state {
			t.Fatalf("P17: row %d: State %d, want %d", i, r.State(), c.state)
		}
		for _, id := range []uint64{0, 4, 6, 9, 5 + 1<<32, far} {
			for _, f := range []api.Frame{part(0, "abc"), last(8, ""), part(99, ""), given(7, 8), given(7, 99), stops(7), more(r.Limit())} {
				f.Stream = id
				if why := r.On(f); why != api.ErrArg {
					t.Errorf("P17.1: row %d: stream %d: %v", i, id, why)
				}
				r.Lost(f)
			}
		}
		for kind := -1; kind < 40; kind++ {
			f := api.Frame{Kind: kind, Stream: 5, Data: []byte("abcdefgh"), Fin: true, Code: 7, Final: 8, Limit: r.Limit()}
			if kind != api.Stream && kind != api.Reset {
				if why := r.On(f); why != api.ErrArg {
					t.Errorf("P17.1: row %d: Kind %d: %v", i, kind, why)
				}
			}
			if kind != api.Stop && kind != api.MaxStreamData {
				r.Lost(f)
			}
		}
		if r.On(api.Frame{}) != api.ErrArg || r.On(api.Frame{Stream: 5}) != api.ErrArg {
			t.Errorf("P17.1: row %d: a frame of nothing", i)
		}
		alike(t, r, m, i)
		drain(t, r, m, i)
	}
}

// TestRead holds Read against rows that were worked out by hand.
func TestRead(t *testing.T) {
	some := []step{on(part(0, "abc")), on(part(6, "gh"))}
	all := []step{on(last(0, "abcdefgh"))}
	gone := behind(some, on(given(9, 8)))
	block, done := got{why: api.ErrBlock}, got{why: api.ErrState}
	for i, c := range []struct {
		ahead []step
		most  int
		want  got
		state int
		taken uint64
	}{
		{nil, 5, block, Recv, 0},
		{nil, 0, block, Recv, 0},
		{some, 0, block, Recv, 0},
		{some, -1, block, Recv, 0},
		{some, math.MinInt, block, Recv, 0},
		{some, 1, got{data: "a"}, Recv, 1},
		{some, 3, got{data: "abc"}, Recv, 3},
		{some, math.MaxInt, got{data: "abc"}, Recv, 3},
		{behind(some, read(2)), 9, got{data: "c"}, Recv, 3},
		{behind(some, read(3)), 9, block, Recv, 3},
		{behind(some, read(3), on(part(3, "def"))), 9, got{data: "defgh"}, Recv, 8},
		{behind(some, on(last(8, ""))), 9, got{data: "abc"}, Sized, 3},
		{behind(some, on(last(8, "")), read(3)), 9, block, Sized, 3},
		{behind(some, on(part(1, "ZZ"))), 9, got{data: "abc"}, Recv, 3},
		{[]step{on(part(4, ""))}, 9, block, Recv, 0},
		{all, 0, block, Whole, 0},
		{all, -1, block, Whole, 0},
		{all, 7, got{data: "abcdefg"}, Whole, 7},
		{all, 8, got{data: "abcdefgh", end: true}, Read, 8},
		{all, 9, got{data: "abcdefgh", end: true}, Read, 8},
		{behind(all, read(7)), 0, block, Whole, 7},
		{behind(all, read(7)), 1, got{data: "h", end: true}, Read, 8},
		{behind(all, read(8)), 9, done, Read, 8},
		{behind(all, read(8)), 0, done, Read, 8},
		{behind(all, read(8), on(given(9, 8))), 9, done, Read, 8},
		{behind(all, on(given(9, 8))), 9, got{data: "abcdefgh", end: true}, Read, 8},
		// The end alone.
		{[]step{on(last(0, ""))}, 9, got{end: true}, Read, 0},
		{[]step{on(last(0, ""))}, 0, got{end: true}, Read, 0},
		{[]step{on(last(0, ""))}, -1, got{end: true}, Read, 0},
		{[]step{on(part(0, "abc")), read(3), on(last(3, ""))}, 0, got{end: true}, Read, 3},
		{[]step{on(part(0, "abc")), read(3), on(last(3, ""))}, 9, got{end: true}, Read, 3},
		{[]step{on(part(0, "abc")), read(2), on(last(3, ""))}, 9, got{data: "c", end: true}, Read, 3},
		// A Reset, told once; what waited is not told any more, but counts as taken.
		{gone, 9, got{code: 9, why: api.ErrReset}, ResetRead, 8},
		{gone, 0, got{code: 9, why: api.ErrReset}, ResetRead, 8},
		{gone, math.MinInt, got{code: 9, why: api.ErrReset}, ResetRead, 8},
		{behind(gone, on(part(0, "abc")), on(given(8, 8))), 9, got{code: 9, why: api.ErrReset}, ResetRead, 8},
		{behind(gone, read(0)), 9, done, ResetRead, 8},
		{behind(gone, read(0), on(given(8, 8))), 9, done, ResetRead, 8},
		{behind(gone, read(0), on(part(0, "abc"))), 0, done, ResetRead, 8},
		{[]step{on(given(0, 0))}, 9, got{why: api.ErrReset}, ResetRead, 0},
		{[]step{on(given(api.MaxVar, 10))}, 9, got{code: api.MaxVar, why: api.ErrReset}, ResetRead, 10},
		{behind(some, read(3), on(given(9, 10))), 9, got{code: 9, why: api.ErrReset}, ResetRead, 10},
	} {
		r, m := run(t, c.ahead...)
		if x := take(r, c.most); x != c.want || r.State() != c.state || r.Taken() != c.taken {
			t.Errorf("P17.2: row %d: Read(%d): %+v, State %d, Taken %d, want %+v, %d, %d", i, c.most, x, r.State(), r.Taken(), c.want, c.state, c.taken)
		}
		m.read(c.most)
		alike(t, r, m, i)
		drain(t, r, m, i)
	}
}

// TestReset asks that bytes that wait count as taken as soon as the Reset comes, ahead of Read.
func TestReset(t *testing.T) {
	for final := range uint64(11) {
		r := New(5, 10)
		r.On(part(0, "abc"[:min(final, 3)]))
		r.Read(1)
		if why := r.On(given(3, final)); why != api.OK || r.Taken() != final || r.Highest() != final || r.State() != ResetRecvd || r.Limit() != 10 {
			t.Errorf("P17.2: Final %d: %v, Taken %d, Highest %d, State %d, Limit %d", final, why, r.Taken(), r.Highest(), r.State(), r.Limit())
		}
		if x := ask(t, r, 99); x.ok {
			t.Errorf("P17.3: Final %d: %+v", final, x)
		}
		if r.in != nil {
			t.Errorf("W3: Final %d: bytes are kept that nobody reads any more", final)
		}
	}
}

// TestStop asks Stop in every state: its refusals, their order, and that it is asked once.
func TestStop(t *testing.T) {
	for i, c := range at() {
		r, m := run(t, c.l...)
		may := (c.state == Recv || c.state == Sized) && !m.asked
		over, first := api.ErrState, api.ErrState
		if may {
			over, first = api.ErrArg, api.OK
		}
		for _, code := range []uint64{api.MaxVar + 1, 1 << 63, far} {
			if why := r.Stop(code); why != over {
				t.Errorf("P17.2: row %d: Stop(%d): %v, want %v", i, code, why, over)
			}
		}
		alike(t, r, m, i)
		code := []uint64{0, 1, 64, api.MaxVar}[i%4]
		if why := r.Stop(code); why != first {
			t.Errorf("P17.2: row %d: Stop(%d): %v, want %v", i, code, why, first)
		}
		m.stopIt(code)
		alike(t, r, m, i)
		for _, again := range []uint64{0, code, far} {
			if why := r.Stop(again); why != api.ErrState {
				t.Errorf("P17.2: row %d: Stop(%d) again: %v", i, again, why)
			}
		}
		if x := ask(t, r, 99); may && !same(x, yes(stops(code))) {
			t.Errorf("P17.3: row %d: Next: %+v", i, x)
		}
		m.next(99)
		if why := r.Stop(code); why != api.ErrState {
			t.Errorf("P17.2: row %d: Stop behind Next: %v", i, why)
		}
		drain(t, r, m, i)
	}
}

// TestNext holds what Next tells against rows that were worked out by hand.
func TestNext(t *testing.T) {
	ten := []step{on(part(0, "abcdefghij"))}
	five := behind(ten, read(5))
	sent := behind(five, next(99))
	some := []step{on(part(0, "abc")), on(part(6, "gh"))}
	for i, c := range []struct {
		ahead []step
		room  int
		want  told
		limit uint64
		after told // of Next(99) then
	}{
		{nil, 99, told{}, 10, told{}},
		{ten, 99, told{}, 10, told{}},
		{behind(ten, read(4)), 99, told{}, 10, told{}},
		{five, 99, yes(more(15)), 15, told{}},
		{five, 3, yes(more(15)), 15, told{}},
		{five, 2, told{}, 10, yes(more(15))},
		{five, 0, told{}, 10, yes(more(15))},
		{five, -1, told{}, 10, yes(more(15))},
		{five, math.MinInt, told{}, 10, yes(more(15))},
		{five, math.MaxInt, yes(more(15)), 15, told{}},
		{behind(ten, read(9)), 99, yes(more(19)), 19, told{}},
		{behind(ten, read(2), read(3)), 99, yes(more(15)), 15, told{}},
		{sent, 99, told{}, 15, told{}},
		{behind(sent, read(4)), 99, told{}, 15, told{}},
		{behind(sent, read(5)), 99, yes(more(20)), 20, told{}},
		// What was lost is told again, with what it is by then.
		{behind(sent, lost(more(15))), 99, yes(more(15)), 15, told{}},
		{behind(sent, lost(more(15)), lost(more(15))), 3, yes(more(15)), 15, told{}},
		{behind(sent, lost(more(15))), 2, told{}, 15, yes(more(15))},
		{behind(sent, lost(more(15)), read(1)), 99, yes(more(16)), 16, told{}},
		{behind(sent, lost(more(15)), read(1), next(99), lost(more(15))), 99, told{}, 16, told{}},
		{behind(sent, lost(more(15)), read(1), next(99), lost(more(16))), 99, yes(more(16)), 16, told{}},
		{behind(sent, lost(more(14))), 99, told{}, 15, told{}},
		{behind(sent, lost(more(16))), 99, told{}, 15, told{}},
		{behind(sent, read(1), lost(more(16))), 99, told{}, 15, told{}},
		{behind(sent, read(5), next(99), lost(more(15))), 99, told{}, 20, told{}},
		{behind(sent, read(5), lost(more(15)), next(99)), 99, told{}, 20, told{}},
		// Of Recv alone.
		{behind(five, on(last(10, ""))), 99, told{}, 10, told{}},
		{behind(five, on(last(9, "j"))), 99, told{}, 10, told{}},
		{[]step{on(part(0, "abcde")), read(5), on(last(6, ""))}, 99, told{}, 10, told{}},
		{[]step{on(last(0, "abcdefgh")), read(7)}, 99, told{}, 10, told{}},
		{[]step{on(last(0, "abcdefgh")), read(8)}, 99, told{}, 10, told{}},
		{behind(sent, lost(more(15)), on(last(11, ""))), 99, told{}, 15, told{}},
		{behind(sent, on(last(11, "")), lost(more(15))), 99, told{}, 15, told{}},
		{behind(sent, lost(more(15)), on(given(1, 12))), 99, told{}, 15, told{}},
		{behind(five, on(given(1, 10))), 99, told{}, 10, told{}},
		{behind(five, on(given(1, 10)), read(0)), 99, told{}, 10, told{}},
		// The Stop is first, and what is behind it waits for it.
		{[]step{stop(7)}, 99, yes(stops(7)), 10, told{}},
		{[]step{stop(7)}, 3, yes(stops(7)), 10, told{}},
		{[]step{stop(7)}, 2, told{}, 10, yes(stops(7))},
		{[]step{stop(0)}, 3, yes(stops(0)), 10, told{}},
		{behind(five, stop(7)), 99, yes(stops(7)), 10, yes(more(15))},
		{behind(five, stop(64)), 3, told{}, 10, yes(stops(64))},
		{behind(five, stop(64)), 4, yes(stops(64)), 10, yes(more(15))},
		{behind(sent, lost(more(15)), stop(7)), 99, yes(stops(7)), 15, yes(more(15))},
		{behind(five, stop(far)), 99, yes(more(15)), 10 + 5, told{}},
		// It is sent once, but again when it was lost.
		{[]step{stop(7), next(99)}, 99, told{}, 10, told{}},
		{[]step{stop(7), next(99), lost(stops(7))}, 99, yes(stops(7)), 10, told{}},
		{[]step{stop(7), next(99), lost(stops(7)), lost(stops(7))}, 99, yes(stops(7)), 10, told{}},
		{[]step{stop(7), next(99), lost(stops(7)), next(99)}, 99, told{}, 10, told{}},
		{[]step{stop(7), next(99), lost(stops(7)), next(99), lost(stops(7))}, 2, told{}, 10, yes(stops(7))},
		{[]step{stop(7), lost(stops(7))}, 99, yes(stops(7)), 10, told{}},
		// None was asked.
		{[]step{lost(stops(7))}, 99, told{}, 10, told{}},
		{[]step{lost(stops(0))}, 99, told{}, 10, told{}},
		{[]step{stop(far), lost(stops(far))}, 99, told{}, 10, told{}},
		{[]step{lost(stops(7)), stop(8)}, 99, yes(stops(8)), 10, told{}},
		// Of Sized it is, of what is behind that not any more.
		{behind(some, stop(7), on(last(8, ""))), 99, yes(stops(7)), 10, told{}},
		{behind(some, on(last(8, "")), stop(7)), 99, yes(stops(7)), 10, told{}},
		{behind(some, stop(7), next(99), on(last(8, "")), lost(stops(7))), 99, yes(stops(7)), 10, told{}},
		{behind(some, stop(7), on(last(3, "defgh"))), 99, told{}, 10, told{}},
		{behind(some, stop(7), on(last(8, "")), on(part(3, "def"))), 99, told{}, 10, told{}},
		{behind(some, stop(7), next(99), lost(stops(7)), on(last(3, "defgh"))), 99, told{}, 10, told{}},
		{behind(some, stop(7), next(99), on(last(3, "defgh")), lost(stops(7))), 99, told{}, 10, told{}},
		{behind(some, stop(7), next(99), on(last(3, "defgh")), read(99), lost(stops(7))), 99, told{}, 10, told{}},
		{[]step{stop(7), on(last(0, ""))}, 99, told{}, 10, told{}},
		{behind(some, stop(7), on(given(1, 8))), 99, told{}, 10, told{}},
		{behind(some, stop(7), next(99), lost(stops(7)), on(given(1, 8))), 99, told{}, 10, told{}},
		{behind(some, stop(7), next(99), on(given(1, 8)), lost(stops(7))), 99, told{}, 10, told{}},
		{behind(some, stop(7), next(99), on(given(1, 8)), read(0), lost(stops(7))), 99, told{}, 10, told{}},
		// A refused frame ends nothing.
		{behind(some, stop(7), on(given(1, 7))), 99, yes(stops(7)), 10, told{}},
		{behind(some, stop(7), on(last(7, ""))), 99, yes(stops(7)), 10, told{}},
		{behind(five, on(last(4, ""))), 99, yes(more(15)), 15, told{}},
		{behind(five, on(last(11, ""))), 99, yes(more(15)), 15, told{}},
		{behind(five, on(given(1, 9))), 99, yes(more(15)), 15, told{}},
	} {
		r, m := run(t, c.ahead...)
		if x := ask(t, r, c.room); !same(x, c.want) || r.Limit() != c.limit {
			t.Errorf("P17.3: row %d: Next(%d): %+v, Limit %d, want %+v, %d", i, c.room, x, r.Limit(), c.want, c.limit)
		}
		if x := ask(t, r, 99); !same(x, c.after) {
			t.Errorf("P17.3: row %d: behind Next(%d): %+v, want %+v", i, c.room, x, c.after)
		}
		m.next(c.room)
		m.next(99)
		alike(t, r, m, i)
		drain(t, r, m, i)
	}
}

// TestHalf asks of every window how many bytes must be read ahead of more being allowed.
func TestHalf(t *testing.T) {
	for window := range uint64(2049) {
		half := window / 2
		if window < 2 {
			half = 1
		}
		r := New(5, window)
		for off := uint64(0); off < window; off += 512 {
			r.On(part(off, long(int(min(512, window-off)), int(off))))
		}
		r.Read(int(half) - 1)
		if x := ask(t, r, 99); x.ok || r.Limit() != window {
			t.Fatalf("P17.3: window %d, %d read: %+v", window, r.Taken(), x)
		}
		r.Read(1)
		want := yes(more(window + half))
		if window == 0 {
			want = told{}
		}
		if x := ask(t, r, 99); !same(x, want) || want.ok && r.Limit() != window+half {
			t.Fatalf("P17.3: window %d, %d read: %+v, want %+v", window, r.Taken(), x, want)
		}
	}
}

// TestRoom asks for both frames by every room about their size, of numbers of every length.
func TestRoom(t *testing.T) {
	edges := []struct {
		n    uint64
		size int
	}{{0, 1}, {63, 1}, {64, 2}, {1<<14 - 1, 2}, {1 << 14, 4}, {1<<30 - 1, 4}, {1 << 30, 8}, {api.MaxVar, 8}}
	for _, id := range edges {
		for _, code := range edges {
			r := New(id.n, 10)
			if why := r.Stop(code.n); why != api.OK {
				t.Fatalf("P17.2: Stop(%d): %v", code.n, why)
			}
			f := api.Frame{Kind: api.Stop, Stream: id.n, Code: code.n}
			rooms(t, r, f, 1+id.size+code.size)
		}
		for _, limit := range []struct {
			n    uint64
			size int
		}{{2, 1}, {63, 1}, {64, 2}, {1<<14 - 1, 2}, {1 << 14, 4}} {
			f := api.Frame{Kind: api.MaxStreamData, Stream: id.n, Limit: limit.n}
			rooms(t, upTo(t, id.n, limit.n), f, 1+id.size+limit.size)
		}
	}
}

// upTo is a receiver of the stream id with a window of 1, all of which was read, so that limit is to be told.
func upTo(t *testing.T, id, limit uint64) *Receiver {
	t.Helper()
	r := New(id, 1)
	for n := range limit - 1 {
		ask(t, r, 99)
		why := r.On(api.Frame{Kind: api.Stream, Stream: id, Offset: n, Data: []byte("a")})
		if x := take(r, 1); why != api.OK || x != (got{data: "a"}) {
			t.Fatalf("P17.3: stream %d at %d: %v, %+v", id, n, why, x)
		}
	}
	return r
}

// rooms asks r, by which f, of size bytes, is to be sent, with rooms of all kinds; it is lost each time that it is told.
func rooms(t *testing.T, r *Receiver, f api.Frame, size int) {
	t.Helper()
	for _, room := range []int{math.MinInt, -1, 0, 1, size - 1} {
		if x := ask(t, r, room); !same(x, told{}) {
			t.Fatalf("P17.3: %+v of %d bytes, room %d: %+v", f, size, room, x)
		}
	}
	for _, room := range []int{size, size + 1, 512, 513, math.MaxInt} {
		if x := ask(t, r, room); !same(x, yes(f)) {
			t.Fatalf("P17.3: %+v of %d bytes, room %d: %+v", f, size, room, x)
		}
		if x := ask(t, r, room); !same(x, told{}) {
			t.Fatalf("P17.3: %+v, the second time: %+v", f, x)
		}
		r.Lost(f)
	}
}

// small is every step out of few numbers that lie around the first six bytes.
func small() []step {
	few := []step{read(0), read(2), read(99), stop(7), stop(far), next(2), next(99)}
	for _, f := range []api.Frame{part(0, "ab"), part(2, "c"), part(3, "def"), part(1, "ZZ"), last(4, ""), last(4, "ef"), last(0, "abcdef"), last(0, ""), part(9, ""), part(9, "jk"), given(1, 6), given(2, 4), given(3, 12)} {
		few = append(few, on(f))
	}
	for _, f := range []api.Frame{stops(7), more(10), more(15), more(16)} {
		few = append(few, lost(f))
	}
	return few
}

// TestAll holds every row of three small steps behind some beginnings, and all that is left to be sent and read behind it.
func TestAll(t *testing.T) {
	few := small()
	ahead := []step{on(part(0, "abcd"))}
	for _, l := range [][]step{
		{},
		ahead,
		behind(ahead, stop(3), next(99)),
		behind(ahead, on(part(4, "e")), read(5)),
		behind(ahead, on(part(4, "ef")), read(6), next(99)),
		behind(ahead, on(last(6, ""))),
		behind(ahead, stop(3), on(last(4, "ef")), read(3)),
		behind(ahead, on(given(1, 6))),
	} {
		for _, x := range few {
			for _, y := range few {
				for _, z := range few {
					r, m := New(5, 10), fresh(5, 10)
					for _, one := range behind(l, x, y, z) {
						tell(t, r, m, one)
						alike(t, r, m, []any{l, x, y, z})
					}
					drain(t, r, m, []any{l, x, y, z})
				}
			}
		}
	}
}

// TestSizes tells every state of numbers of any size: nothing wraps round.
func TestSizes(t *testing.T) {
	numbers := []uint64{0, 1, 7, 8, 9, 10, 11, 1<<40 - 1, 1 << 40, 1<<40 + 1, api.MaxVar, api.MaxVar + 1, 1<<63 - 1, 1 << 63, far - 2, far - 1, far}
	for i, c := range at() {
		for _, n := range numbers {
			for _, x := range []step{on(part(n, "")), on(part(n, "abc")), on(last(n, "")), on(last(n, "abc")), on(part(n, long(513, 0))), on(given(n, n)), on(given(n, 8)), on(given(n, 10)), stop(n), lost(stops(n)), lost(more(n))} {
				r, m := run(t, behind(c.l, x)...)
				drain(t, r, m, []any{i, x})
			}
		}
		for _, n := range []int{math.MinInt, -1, 0, 1, 1 << 32, math.MaxInt} {
			r, m := run(t, behind(c.l, read(n), next(n), read(n), next(n))...)
			drain(t, r, m, []any{i, n})
		}
	}
	// An id that no frame can have: only that calls end.
	for _, id := range []uint64{api.MaxVar + 1, 1 << 63, far} {
		r := New(id, 2)
		r.Stop(7)
		for _, room := range []int{math.MinInt, -1, 0, 20, math.MaxInt} {
			r.Next(room)
		}
		f := api.Frame{Kind: api.Stream, Stream: id, Data: []byte("ab")}
		if x := r.On(f); x != api.OK || take(r, 9) != (got{data: "ab"}) {
			t.Errorf("R1: stream %d: %v", id, x)
		}
		for _, room := range []int{math.MinInt, -1, 0, 20, math.MaxInt} {
			r.Next(room)
		}
		r.Lost(api.Frame{Kind: api.Stop, Stream: id})
		r.On(api.Frame{Kind: api.Reset, Stream: id, Final: 2})
		if r.State() != ResetRecvd {
			t.Errorf("R1: stream %d: State %d", id, r.State())
		}
	}
}

// odd is a step of any kind, mostly near what may come.
func odd(q *rand.Rand, m *model) step {
	off := uint64(max(0, int(m.took)-30+q.Intn(int(m.window)+60)))
	f := part(off, long(q.Intn(80), int(off)))
	f.Fin = q.Intn(200) == 0
	switch k := q.Intn(1000); {
	case k < 450:
		if q.Intn(30) == 0 {
			f.Stream = uint64(q.Intn(8))
		}
		return on(f)
	case k < 500:
		// What lacks, up to where more came already, so that it goes on.
		return on(part(m.took, long(min(60, int(m.limit-m.took)), int(m.took))))
	case k < 503:
		return on(given(uint64(q.Intn(99)), off))
	case k < 510:
		return stop(uint64(q.Intn(99)))
	case k < 750:
		return read(q.Intn(90) - 5)
	case k < 900:
		return next(q.Intn(12) - 2)
	case k < 920:
		return lost(stops(m.stop))
	}
	return lost(more(m.limit - uint64(q.Intn(2))))
}

// TestRows holds long rows of steps of all kinds, step by step.
func TestRows(t *testing.T) {
	q := rand.New(rand.NewSource(17))
	seen := map[int]int{}
	for round := range 400 {
		window := uint64(1 + q.Intn(300))
		r, m := New(5, window), fresh(5, window)
		for range 300 {
			x := odd(q, m)
			tell(t, r, m, x)
			alike(t, r, m, []any{round, x})
			seen[r.State()]++
		}
		drain(t, r, m, round)
		seen[r.State()]++
	}
	for state := Recv; state <= ResetRead; state++ {
		if seen[state] == 0 {
			t.Errorf("the rows are never in state %d", state)
		}
	}
}

// way is what lies between a sender and a receiver: frames under way, both ways.
type way struct {
	there, back []api.Frame
}

// pick takes one frame out of l, at any place.
func pick(q *rand.Rand, l *[]api.Frame) api.Frame {
	i := q.Intn(len(*l))
	f := (*l)[i]
	*l = append((*l)[:i:i], (*l)[i+1:]...)
	return f
}

// carry brings one frame of the sender to the receiver, twice at times, or loses it.
func (w *way) carry(t *testing.T, q *rand.Rand, s *sender.Sender, r *Receiver) {
	f := pick(q, &w.there)
	if q.Intn(4) == 0 {
		s.Lost(f)
		return
	}
	for range 1 + q.Intn(2) {
		if why := r.On(f); why != api.OK {
			t.Fatalf("P17.1: On(%+v): %v", f, why)
		}
	}
	s.Acked(f)
}

// bring brings one frame of the receiver to the sender, or loses it.
func (w *way) bring(q *rand.Rand, s *sender.Sender, r *Receiver) {
	f := pick(q, &w.back)
	switch {
	case q.Intn(4) == 0:
		r.Lost(f)
	case f.Kind == api.MaxStreamData:
		s.Limit(f.Limit)
	default:
		s.Reset(f.Code)
	}
}

// turn moves each thing on a little: what is sent, what is under way, both ways.
func (w *way) turn(t *testing.T, q *rand.Rand, s *sender.Sender, r *Receiver) {
	t.Helper()
	if f, ok := s.Next(q.Intn(120), 1<<40); ok {
		w.there = append(w.there, f)
	}
	if x := ask(t, r, q.Intn(12)); x.ok {
		w.back = append(w.back, x.f)
	}
	if len(w.there) > 0 && q.Intn(3) > 0 {
		w.carry(t, q, s, r)
	}
	if len(w.back) > 0 && q.Intn(3) > 0 {
		w.bring(q, s, r)
	}
}

// TestThrough brings texts from a sender to a receiver over a way that loses, doubles and keeps no order, both ways; some are stopped on the way.
func TestThrough(t *testing.T) {
	q := rand.New(rand.NewSource(71))
	for round := range 60 {
		text := long(q.Intn(6000), round)
		window := uint64(1 + q.Intn(2500))
		giveUp := -1
		if round%3 == 0 {
			giveUp = q.Intn(len(text) + 1)
		}
		s, r, w := sender.New(5), New(5, window), &way{}
		s.Limit(r.Limit())
		wrote, read, done := 0, "", got{}
		for n := 0; r.State() != Read && r.State() != ResetRead; n++ {
			if n > 400000 {
				t.Fatalf("W4: round %d: it does not come through: window %d, State %d, %d of %d", round, window, r.State(), len(read), len(text))
			}
			if k, why := s.Write([]byte(text[wrote:min(len(text), wrote+q.Intn(200))])); why == api.OK {
				wrote += k
			}
			if wrote == len(text) {
				s.Finish()
			}
			w.turn(t, q, s, r)
			if giveUp >= 0 && len(read) >= giveUp {
				r.Stop(77)
			}
			if r.Highest() > r.Limit() || r.Limit() > uint64(len(read))+2048 {
				t.Fatalf("W3: round %d: Highest %d, Limit %d, %d read", round, r.Highest(), r.Limit(), len(read))
			}
			done = take(r, q.Intn(150))
			read += done.data
			if len(read) > len(text) || read != text[:len(read)] {
				t.Fatalf("W1: round %d: other bytes came", round)
			}
		}
		switch {
		case r.State() == Read && (!done.end || read != text):
			t.Fatalf("W1: round %d: the end at %d of %d", round, len(read), len(text))
		case r.State() == ResetRead && (giveUp < 0 || done.code != 77 || done.why != api.ErrReset || r.Taken() != s.Sent()):
			t.Fatalf("W1: round %d: another reset: %+v, Taken %d, Sent %d", round, done, r.Taken(), s.Sent())
		}
	}
}

// TestOrder takes the pieces of a text in every order.
func TestOrder(t *testing.T) {
	text := "abcdefghij"
	pieces := []api.Frame{part(0, "ab"), part(2, "cde"), part(4, "ef"), part(6, "ghi"), last(9, "j"), last(10, "")}
	orders(pieces, 0, func(l []api.Frame) {
		r, m := New(5, 10), fresh(5, 10)
		out := ""
		for i, f := range l {
			tell(t, r, m, on(f))
			alike(t, r, m, l[:i+1])
			if i%2 == 0 {
				m.read(3)
				out += take(r, 3).data
			}
		}
		for range text {
			out += take(r, 4).data
		}
		if out != text || r.State() != Read {
			t.Fatalf("W1: %+v: %q, State %d", l, out, r.State())
		}
	})
}

// orders does what there is to do by every order of what is in l from n on.
func orders(l []api.Frame, n int, do func(l []api.Frame)) {
	if n == len(l) {
		do(l)
		return
	}
	for i := n; i < len(l); i++ {
		l[n], l[i] = l[i], l[n]
		orders(l, n+1, do)
		l[n], l[i] = l[i], l[n]
	}
}

// spoil writes over all of x, its spare room too.
func spoil(x []byte) {
	x = x[:cap(x)]
	for i := range x {
		x[i] = '!'
	}
}

// TestMemory asks that what is handed in is neither kept nor changed, nor its spare room, and that no answer shares memory.
func TestMemory(t *testing.T) {
	r := New(5, 10)
	row := []byte("..abcdef..")
	f := part(0, "")
	f.Data = row[2:8]
	if why := r.On(f); why != api.OK || string(row) != "..abcdef.." {
		t.Fatalf("R2: On: %v, %s", why, row)
	}
	spoil(row)
	x, _, _, _ := r.Read(2)
	y, _, _, _ := r.Read(2)
	if string(x) != "ab" || string(y) != "cd" {
		t.Fatalf("R2: what was handed in is kept: %s, %s", x, y)
	}
	spoil(x)
	if string(y) != "cd" {
		t.Errorf("R2: two answers share memory: %s", y)
	}
	spoil(y)
	if z := take(r, 9); z != (got{data: "ef"}) {
		t.Errorf("R2: an answer shares memory with the receiver: %+v", z)
	}
	row = []byte("..abcdefgh..")
	f.Data, f.Fin = row[2:10], true
	r.On(f)
	if string(row) != "..abcdefgh.." {
		t.Errorf("R2: what was handed in is changed: %s", row)
	}
	spoil(row)
	if z := take(r, 9); z != (got{data: "gh", end: true}) {
		t.Errorf("R2: what was handed in is kept: %+v", z)
	}
	f = stops(1)
	f.Data = []byte("abc")
	r.Lost(f)
	if why := r.On(f); why != api.ErrArg || !bytes.Equal(f.Data, []byte("abc")) {
		t.Errorf("R2: %v, %s", why, f.Data)
	}
}

// TestAlone asks that no receiver sees what another one is told, and that asking changes nothing.
func TestAlone(t *testing.T) {
	var all []*Receiver
	var models []*model
	for _, c := range at() {
		r, m := run(t, c.l...)
		all, models = append(all, r), append(models, m)
	}
	for range 3 {
		for i, r := range all {
			alike(t, r, models[i], i)
		}
	}
	for i, r := range all {
		tell(t, r, models[i], on(part(3, "def")))
		drain(t, r, models[i], i)
		for j, other := range all {
			alike(t, other, models[j], []int{i, j})
		}
	}
}
