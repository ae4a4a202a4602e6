package sender

import (
	"bytes"
	"math"
	"math/rand"
	"strings"
	"testing"

	"narthex/api"
	"narthex/frame"
)

// far is more than any limit that is asked here.
const far = math.MaxUint64

// step is one thing that a sender is told, by the name of the call.
type step struct {
	call string
	data string
	room int
	n    uint64 // code, limit or more
	f    api.Frame
}

func write(data string) step            { return step{call: "Write", data: data} }
func finish() step                      { return step{call: "Finish"} }
func reset(code uint64) step            { return step{call: "Reset", n: code} }
func limit(n uint64) step               { return step{call: "Limit", n: n} }
func next(room int, more uint64) step   { return step{call: "Next", room: room, n: more} }
func acked(f api.Frame) step            { return step{call: "Acked", f: f} }
func lost(f api.Frame) step             { return step{call: "Lost", f: f} }
func behind(l []step, s ...step) []step { return append(l[:len(l):len(l)], s...) }

// part is a Stream frame of the stream 4.
func part(off uint64, data string, fin bool) api.Frame {
	return api.Frame{Kind: api.Stream, Stream: 4, Offset: off, Data: []byte(data), Fin: fin}
}

// given is a Reset frame of the stream 4.
func given(code, final uint64) api.Frame {
	return api.Frame{Kind: api.Reset, Stream: 4, Code: code, Final: final}
}

// told is what Next tells.
type told struct {
	f  api.Frame
	ok bool
}

// yes is what Next tells of f.
func yes(f api.Frame) told { return told{f, true} }

// same is whether a and b tell the same, and have no other field set than what their Kind asks.
func same(a, b told) bool {
	return a.ok == b.ok && frame.Same(a.f, b.f) && bare(a.f) && bare(b.f)
}

// bare is whether f has nothing in the fields that a Stream and a Reset don't ask, and nothing at all where it has no Kind.
func bare(f api.Frame) bool {
	none := f.Limit == 0 && f.Seq == 0 && f.Delay == 0 && len(f.Ranges) == 0 && f.CID == api.CID{}
	switch f.Kind {
	case api.Stream:
		return none && f.Code == 0 && f.Final == 0
	case api.Reset:
		return none && f.Offset == 0 && len(f.Data) == 0 && !f.Fin
	}
	return none && f.Code == 0 && f.Final == 0 && f.Stream == 0 && f.Offset == 0 && len(f.Data) == 0 && !f.Fin
}

// model is a sender by the chapters' words: every byte that was ever written is kept, and what is known of each.
type model struct {
	id, limit, code                   uint64
	state                             int
	bytes                             []byte
	acked, lost                       []bool
	sent                              uint64
	ended, endSent, endLost, endAcked bool
	given, due                        bool // of the Reset
}

// new4 is a model of the stream 4.
func new4() *model { return &model{id: 4, state: 1} }

// room is outbuf's Room.
func (m *model) room() int {
	if m.ended {
		return 0
	}
	base := 0
	for base < len(m.acked) && m.acked[base] {
		base++
	}
	return 2048 - (len(m.bytes) - base)
}

// write is P16.1's Write.
func (m *model) write(data string) (int, api.Errno) {
	if m.ended || m.given {
		return 0, api.ErrState
	}
	if data != "" && m.room() == 0 {
		return 0, api.ErrBlock
	}
	n := min(len(data), m.room())
	m.bytes = append(m.bytes, data[:n]...)
	m.acked = append(m.acked, make([]bool, n)...)
	m.lost = append(m.lost, make([]bool, n)...)
	return n, api.OK
}

// finish is P16.1's Finish.
func (m *model) finish() api.Errno {
	if m.ended || m.given {
		return api.ErrState
	}
	m.ended = true
	return api.OK
}

// reset is P16.1's Reset.
func (m *model) reset(code uint64) api.Errno {
	if m.state == 4 || m.state == 5 || m.state == 6 {
		return api.ErrState
	}
	if code > 1<<62-1 {
		return api.ErrArg
	}
	m.state, m.given, m.due, m.code = 5, true, true, code
	return api.OK
}

// next is P16.2's Next.
func (m *model) next(room int, more uint64) told {
	if m.given {
		f := api.Frame{Kind: 4, Stream: m.id, Code: m.code, Final: m.sent}
		b, _ := frame.Encode(f)
		if !m.due || m.state != 5 || len(b) > room {
			return told{}
		}
		m.due = false
		return yes(f)
	}
	if room < 20 {
		return told{}
	}
	if room > 512 {
		room = 512
	}
	if more > 1<<40 {
		more = 1 << 40
	}
	limit := m.sent + more
	if m.limit < limit {
		limit = m.limit
	}
	return m.bytesNext(room-20, limit)
}

// bytesNext is outbuf's Next, as a frame, and what becomes of the state.
func (m *model) bytesNext(most int, limit uint64) told {
	from, any := m.row(limit)
	n := min(any, most)
	endDue := m.ended && (!m.endSent || m.endLost) && !m.endAcked
	if any == 0 && (!endDue || m.sent < uint64(len(m.bytes))) || any > 0 && most < 1 {
		return told{}
	}
	f := api.Frame{Kind: 8, Stream: m.id, Offset: uint64(from), Data: bytes.Clone(m.bytes[from : from+n])}
	for i := from; i < from+n; i++ {
		m.lost[i] = false
	}
	m.sent = max(m.sent, uint64(from+n))
	if m.state == 1 {
		m.state = 2
	}
	if endDue && from+n == len(m.bytes) {
		f.Fin, m.endSent, m.endLost = true, true, false
		m.state = 3
	}
	return yes(f)
}

// row is the offset of the bytes that are to be sent, and how many there are.
func (m *model) row(limit uint64) (int, int) {
	for i := range m.lost {
		if m.lost[i] {
			n := 0
			for i+n < len(m.lost) && m.lost[i+n] {
				n++
			}
			return i, n
		}
	}
	n := 0
	for int(m.sent)+n < len(m.bytes) && m.sent+uint64(n) < limit {
		n++
	}
	return int(m.sent), n
}

// each goes through those of f's bytes that were sent.
func (m *model) each(f api.Frame, do func(i uint64)) {
	for i := range m.sent {
		if i >= f.Offset && i-f.Offset < uint64(len(f.Data)) {
			do(i)
		}
	}
}

// ack is P16.2's Acked.
func (m *model) ack(f api.Frame) {
	if f.Kind == 4 && f.Stream == m.id && m.state == 5 {
		m.state = 6
	}
	if f.Kind != 8 || f.Stream != m.id {
		return
	}
	m.each(f, func(i uint64) { m.acked[i], m.lost[i] = true, false })
	m.endAcked = m.endAcked || f.Fin && m.endSent
	whole := m.endAcked
	for _, a := range m.acked {
		whole = whole && a
	}
	if whole && m.state == 3 {
		m.state = 4
	}
}

// lose is P16.2's Lost.
func (m *model) lose(f api.Frame) {
	if f.Kind == 4 && f.Stream == m.id && m.state == 5 {
		m.due = true
	}
	if f.Kind != 8 || f.Stream != m.id {
		return
	}
	m.each(f, func(i uint64) { m.lost[i] = !m.acked[i] })
	if f.Fin && m.endSent && !m.endAcked {
		m.endLost = true
	}
}

// ask is what s tells by Next, which must have room in what it was asked for, and be a frame that may be.
func ask(t *testing.T, s *Sender, room int, more uint64) told {
	t.Helper()
	f, ok := s.Next(room, more)
	if ok && (!frame.Right(f) || frame.Size(f) > room || frame.Size(f) > api.MaxDatagram) {
		t.Fatalf("P16.2: Next(%d, %d): %d bytes: %+v", room, more, frame.Size(f), f)
	}
	return told{f, ok}
}

// tell tells both of what there is to tell and holds their answers against each other.
func tell(t *testing.T, s *Sender, m *model, x step) {
	t.Helper()
	switch x.call {
	case "Write":
		n, why := m.write(x.data)
		if got, is := s.Write([]byte(x.data)); got != n || is != why {
			t.Fatalf("P16.1: Write of %d bytes: %d, %v, want %d, %v", len(x.data), got, is, n, why)
		}
	case "Finish":
		if got, want := s.Finish(), m.finish(); got != want {
			t.Fatalf("P16.1: Finish: %v, want %v", got, want)
		}
	case "Reset":
		if got, want := s.Reset(x.n), m.reset(x.n); got != want {
			t.Fatalf("P16.1: Reset(%d): %v, want %v", x.n, got, want)
		}
	case "Limit":
		m.limit = max(m.limit, x.n)
		s.Limit(x.n)
	case "Next":
		if got, want := ask(t, s, x.room, x.n), m.next(x.room, x.n); !same(got, want) {
			t.Fatalf("P16.2: Next(%d, %d): %+v, want %+v", x.room, x.n, got, want)
		}
	case "Acked":
		m.ack(x.f)
		s.Acked(x.f)
	case "Lost":
		m.lose(x.f)
		s.Lost(x.f)
	}
}

// alike holds every answer of s that changes nothing against the model's.
func alike(t *testing.T, s *Sender, m *model, behind any) {
	t.Helper()
	if s.State() != m.state || s.Sent() != m.sent || s.Length() != uint64(len(m.bytes)) {
		t.Fatalf("P16: behind %+v: State %d, Sent %d, Length %d, want %d, %d, %d", behind, s.State(), s.Sent(), s.Length(), m.state, m.sent, len(m.bytes))
	}
}

// run tells a new sender of the stream 4 and a new model of l, and holds them against each other behind each step.
func run(t *testing.T, l ...step) (*Sender, *model) {
	t.Helper()
	s, m := New(4), new4()
	alike(t, s, m, nil)
	for i, x := range l {
		tell(t, s, m, x)
		alike(t, s, m, l[:i+1])
	}
	return s, m
}

// drain asks both for all that is left to be sent, by frames of room.
func drain(t *testing.T, s *Sender, m *model, room int, behind any) {
	t.Helper()
	tell(t, s, m, limit(far))
	for n := 0; ; n++ {
		got, want := ask(t, s, room, far), m.next(room, far)
		if !same(got, want) {
			t.Fatalf("P16.2: behind %+v: Next: %+v, want %+v", behind, got, want)
		}
		alike(t, s, m, behind)
		if !got.ok {
			return
		}
		if n > 9000 {
			t.Fatalf("P16.2: behind %+v: no end", behind)
		}
	}
}

// long is n bytes, none like its neighbours, and other ones for another from.
func long(n, from int) string {
	b := make([]byte, n)
	for i := range b {
		b[i] = byte((from + i) % 251)
	}
	return string(b)
}

// at are the steps to every state, by its number, and some ways more than one to it; their texts are of six bytes.
func at() []struct {
	state int
	l     []step
} {
	ahead := []step{write("abcdef"), limit(99)}
	whole := behind(ahead, finish(), next(99, far))
	return []struct {
		state int
		l     []step
	}{
		{Ready, nil},
		{Ready, ahead},
		{Ready, behind(ahead, finish())},
		{Sends, behind(ahead, next(23, far))},
		{Sends, behind(ahead, next(99, far))},
		{Sends, behind(ahead, next(99, far), acked(part(0, "abcdef", false)))},
		{Sends, behind(ahead, next(99, far), finish())},
		{Whole, []step{finish(), next(20, 0)}},
		{Whole, whole},
		{Whole, behind(whole, lost(part(0, "abcdef", true)))},
		{Whole, behind(whole, acked(part(0, "abcdef", false)))},
		{Whole, behind(whole, acked(part(6, "", true)))},
		{Recvd, []step{finish(), next(20, 0), acked(part(0, "", true))}},
		{Recvd, behind(whole, acked(part(0, "abcdef", true)))},
		{ResetSent, []step{reset(7)}},
		{ResetSent, behind(ahead, reset(7))},
		{ResetSent, behind(ahead, next(23, far), reset(7))},
		{ResetSent, behind(ahead, finish(), reset(7), next(99, 0))},
		{ResetSent, behind(whole, reset(7), next(99, 0))},
		{ResetSent, behind(whole, reset(7), acked(part(0, "abcdef", true)))},
		{ResetRecvd, behind(whole, reset(7), next(99, 0), acked(given(7, 6)))},
		{ResetRecvd, behind(whole, reset(7), acked(given(7, 6)))},
		{ResetRecvd, []step{reset(0), next(99, 0), lost(given(0, 0)), acked(given(0, 0))}},
	}
}

func TestRun(t *testing.T) {
	s := New(0)
	if s.State() != Ready || Ready != 1 || Sends != 2 || Whole != 3 || Recvd != 4 || ResetSent != 5 || ResetRecvd != 6 {
		t.Errorf("P16: the run: %d", s.State())
	}
	s.Finish()
	if n, why := s.Write([]byte("a")); n != 0 || why != api.ErrState {
		t.Errorf("P16.1: example 1: %d, %v", n, why)
	}
	s = New(0)
	s.Limit(9)
	s.Write([]byte("abc"))
	if got := ask(t, s, 3, 9); !same(got, told{}) {
		t.Errorf("P16.2: example 2: %+v", got)
	}
}

// TestRefusals asks every call that refuses in every state, and that a refusal changes nothing.
func TestRefusals(t *testing.T) {
	for i, c := range at() {
		s, m := run(t, c.l...)
		if s.State() != c.state {
			t.Fatalf("P16: row %d: State %d, want %d", i, s.State(), c.state)
		}
		over := api.ErrArg
		if c.state >= Recvd {
			over = api.ErrState
		}
		for _, code := range []uint64{api.MaxVar + 1, 1 << 63, math.MaxUint64} {
			if got := s.Reset(code); got != over {
				t.Errorf("P16.1: row %d: Reset(%d): %v, want %v", i, code, got, over)
			}
		}
		if c.state >= Recvd {
			for _, code := range []uint64{0, 8, api.MaxVar} {
				if got := s.Reset(code); got != api.ErrState {
					t.Errorf("P16.1: row %d: Reset(%d): %v", i, code, got)
				}
			}
		}
		if m.ended || m.given {
			for _, text := range []string{"", "x"} {
				if n, why := s.Write([]byte(text)); n != 0 || why != api.ErrState {
					t.Errorf("P16.1: row %d: Write of %d: %d, %v", i, len(text), n, why)
				}
			}
			if n, why := s.Write(nil); n != 0 || why != api.ErrState {
				t.Errorf("P16.1: row %d: Write of nothing: %d, %v", i, n, why)
			}
			if why := s.Finish(); why != api.ErrState {
				t.Errorf("P16.1: row %d: Finish: %v", i, why)
			}
		}
		alike(t, s, m, i)
		drain(t, s, m, 21, i)
		alike(t, s, m, i)
	}
}

// TestWrite holds Write against numbers that were worked out by hand.
func TestWrite(t *testing.T) {
	full := []step{write(long(2048, 0)), limit(far), next(520, far)}
	for i, c := range []struct {
		ahead []step
		data  int
		want  int
		why   api.Errno
	}{
		{nil, 0, 0, api.OK},
		{nil, 1, 1, api.OK},
		{nil, 2047, 2047, api.OK},
		{nil, 2048, 2048, api.OK},
		{nil, 2049, 2048, api.OK},
		{nil, 100000, 2048, api.OK},
		{[]step{write("abc")}, 2046, 2045, api.OK},
		{[]step{write(long(2047, 0))}, 2, 1, api.OK},
		{full, 1, 0, api.ErrBlock},
		{full, 9999, 0, api.ErrBlock},
		{full, 0, 0, api.OK},
		{behind(full, acked(part(0, long(492, 0), false))), 493, 492, api.OK},
		{behind(full, acked(part(1, long(491, 1), false))), 1, 0, api.ErrBlock},
		{behind(full, acked(part(1, long(491, 1), false))), 0, 0, api.OK},
		{behind(full, lost(part(0, long(492, 0), false))), 1, 0, api.ErrBlock},
		{behind(full, finish()), 1, 0, api.ErrState},
		{behind(full, finish()), 0, 0, api.ErrState},
		{behind(full, reset(0)), 1, 0, api.ErrState},
		{behind(full, reset(0)), 0, 0, api.ErrState},
	} {
		s, m := run(t, c.ahead...)
		length := s.Length()
		if got, why := s.Write([]byte(long(c.data, 7))); got != c.want || why != c.why || s.Length() != length+uint64(c.want) {
			t.Errorf("P16.1: row %d: Write of %d: %d, %v, Length %d, want %d, %v", i, c.data, got, why, s.Length(), c.want, c.why)
		}
		m.write(long(c.data, 7))
		drain(t, s, m, 300, i)
	}
}

// TestNext holds what Next tells against rows that were worked out by hand.
func TestNext(t *testing.T) {
	six := []step{write("abcdef"), limit(4)}
	two := behind(six, next(22, far))
	all := []step{write("abcdef"), limit(99), next(99, far)}
	whole := behind(all, finish(), next(20, 0))
	for i, c := range []struct {
		ahead       []step
		room        int
		more        uint64
		want        told
		state       int
		sent        uint64
		after       told // of Next(500, far) then
		afterStates int
	}{
		// Nothing was written, or nothing may be sent.
		{nil, 500, far, told{}, Ready, 0, told{}, Ready},
		{[]step{limit(9)}, 500, far, told{}, Ready, 0, told{}, Ready},
		{[]step{write("ab")}, 500, far, told{}, Ready, 0, told{}, Ready},
		{all, 500, far, told{}, Sends, 6, told{}, Sends},
		// The lower of the limit, which is the greatest one, and Sent + more.
		{six, 500, far, yes(part(0, "abcd", false)), Sends, 4, told{}, Sends},
		{behind(six, limit(3)), 500, far, yes(part(0, "abcd", false)), Sends, 4, told{}, Sends},
		{behind(six, limit(5)), 500, far, yes(part(0, "abcde", false)), Sends, 5, told{}, Sends},
		{behind(six, limit(far)), 500, far, yes(part(0, "abcdef", false)), Sends, 6, told{}, Sends},
		{six, 500, 4, yes(part(0, "abcd", false)), Sends, 4, told{}, Sends},
		{six, 500, 3, yes(part(0, "abc", false)), Sends, 3, yes(part(3, "d", false)), Sends},
		{six, 500, 1, yes(part(0, "a", false)), Sends, 1, yes(part(1, "bcd", false)), Sends},
		{six, 500, 0, told{}, Ready, 0, yes(part(0, "abcd", false)), Sends},
		{two, 500, 0, told{}, Sends, 2, yes(part(2, "cd", false)), Sends},
		{two, 500, 1, yes(part(2, "c", false)), Sends, 3, yes(part(3, "d", false)), Sends},
		{two, 500, 1 << 40, yes(part(2, "cd", false)), Sends, 4, told{}, Sends},
		{two, 500, 1<<40 + 1, yes(part(2, "cd", false)), Sends, 4, told{}, Sends},
		{two, 500, far - 1, yes(part(2, "cd", false)), Sends, 4, told{}, Sends},
		{two, 500, far, yes(part(2, "cd", false)), Sends, 4, told{}, Sends},
		{behind(two, limit(far)), 500, far - 2, yes(part(2, "cdef", false)), Sends, 6, told{}, Sends},
		// Room.
		{six, 19, far, told{}, Ready, 0, yes(part(0, "abcd", false)), Sends},
		{six, 20, far, told{}, Ready, 0, yes(part(0, "abcd", false)), Sends},
		{six, 21, far, yes(part(0, "a", false)), Sends, 1, yes(part(1, "bcd", false)), Sends},
		{six, 23, far, yes(part(0, "abc", false)), Sends, 3, yes(part(3, "d", false)), Sends},
		{six, 0, far, told{}, Ready, 0, yes(part(0, "abcd", false)), Sends},
		{six, -1, far, told{}, Ready, 0, yes(part(0, "abcd", false)), Sends},
		{six, math.MinInt, far, told{}, Ready, 0, yes(part(0, "abcd", false)), Sends},
		{six, math.MaxInt, far, yes(part(0, "abcd", false)), Sends, 4, told{}, Sends},
		// What was lost goes whatever limit and more are.
		{behind(all, lost(part(1, "bc", false))), 500, 0, yes(part(1, "bc", false)), Sends, 6, told{}, Sends},
		{behind(two, lost(part(0, "ab", false))), 21, 0, yes(part(0, "a", false)), Sends, 2, yes(part(1, "b", false)), Sends},
		{behind(all, lost(part(1, "bc", false)), acked(part(0, "ab", false))), 500, 0, yes(part(2, "c", false)), Sends, 6, told{}, Sends},
		// The end, with bytes and alone.
		{[]step{finish()}, 20, 0, yes(part(0, "", true)), Whole, 0, told{}, Whole},
		{[]step{finish()}, 19, far, told{}, Ready, 0, yes(part(0, "", true)), Whole},
		{behind(all, finish()), 20, 0, yes(part(6, "", true)), Whole, 6, told{}, Whole},
		{behind(all, finish()), 19, 0, told{}, Sends, 6, yes(part(6, "", true)), Whole},
		{behind(six, limit(9), finish()), 500, 6, yes(part(0, "abcdef", true)), Whole, 6, told{}, Whole},
		{behind(six, limit(6), finish()), 26, 9, yes(part(0, "abcdef", true)), Whole, 6, told{}, Whole},
		{behind(six, limit(9), finish()), 25, 6, yes(part(0, "abcde", false)), Sends, 5, yes(part(5, "f", true)), Whole},
		{behind(six, limit(9), finish()), 500, 5, yes(part(0, "abcde", false)), Sends, 5, yes(part(5, "f", true)), Whole},
		{behind(six, finish()), 500, far, yes(part(0, "abcd", false)), Sends, 4, told{}, Sends},
		{behind(all, finish(), lost(part(4, "ef", false))), 500, 0, yes(part(4, "ef", true)), Whole, 6, told{}, Whole},
		{behind(all, finish(), lost(part(0, "a", false))), 500, 0, yes(part(0, "a", false)), Sends, 6, yes(part(6, "", true)), Whole},
		// Whole stays Whole, whatever is sent again.
		{whole, 500, far, told{}, Whole, 6, told{}, Whole},
		{behind(whole, lost(part(0, "a", false))), 500, 0, yes(part(0, "a", false)), Whole, 6, told{}, Whole},
		{behind(whole, lost(part(0, "a", true))), 500, 0, yes(part(0, "a", false)), Whole, 6, yes(part(6, "", true)), Whole},
		{behind(whole, lost(part(6, "", true))), 20, 0, yes(part(6, "", true)), Whole, 6, told{}, Whole},
		// Behind Recvd there is nothing.
		{behind(whole, acked(part(0, "abcdef", true)), lost(part(0, "abcdef", true))), 500, far, told{}, Recvd, 6, told{}, Recvd},
		// The Reset, and nothing else.
		{[]step{reset(7)}, 4, 0, yes(given(7, 0)), ResetSent, 0, told{}, ResetSent},
		{[]step{reset(7)}, 3, 0, told{}, ResetSent, 0, yes(given(7, 0)), ResetSent},
		{behind(six, reset(7)), 500, far, yes(given(7, 0)), ResetSent, 0, told{}, ResetSent},
		{behind(two, reset(7)), 500, far, yes(given(7, 2)), ResetSent, 2, told{}, ResetSent},
		{behind(two, reset(7)), 3, far, told{}, ResetSent, 2, yes(given(7, 2)), ResetSent},
		{behind(two, reset(64)), 4, far, told{}, ResetSent, 2, yes(given(64, 2)), ResetSent},
		{behind(two, reset(64)), 5, far, yes(given(64, 2)), ResetSent, 2, told{}, ResetSent},
		{behind(two, lost(part(0, "ab", false)), finish(), reset(7)), 500, far, yes(given(7, 2)), ResetSent, 2, told{}, ResetSent},
		{behind(two, reset(7), lost(part(0, "ab", false)), limit(far)), 500, far, yes(given(7, 2)), ResetSent, 2, told{}, ResetSent},
		{behind(whole, reset(7), lost(part(0, "abcdef", true))), 500, far, yes(given(7, 6)), ResetSent, 6, told{}, ResetSent},
		{behind(whole, reset(7), acked(part(0, "abcdef", true))), 500, far, yes(given(7, 6)), ResetSent, 6, told{}, ResetSent},
		{behind(whole, reset(7), next(500, 0)), 500, far, told{}, ResetSent, 6, told{}, ResetSent},
		{behind(whole, reset(7), next(500, 0), lost(given(7, 6))), 500, 0, yes(given(7, 6)), ResetSent, 6, told{}, ResetSent},
		{behind(whole, reset(7), next(500, 0), lost(given(7, 6))), 3, 0, told{}, ResetSent, 6, yes(given(7, 6)), ResetSent},
		{behind(whole, reset(7), next(500, 0), lost(given(7, 6)), lost(given(7, 6))), 4, 0, yes(given(7, 6)), ResetSent, 6, told{}, ResetSent},
		{behind(whole, reset(7), next(500, 0), lost(given(7, 6)), acked(given(7, 6))), 500, 0, told{}, ResetRecvd, 6, told{}, ResetRecvd},
		{behind(whole, reset(7), next(500, 0), acked(given(7, 6)), lost(given(7, 6))), 500, 0, told{}, ResetRecvd, 6, told{}, ResetRecvd},
	} {
		s, m := run(t, c.ahead...)
		if got := ask(t, s, c.room, c.more); !same(got, c.want) || s.State() != c.state || s.Sent() != c.sent {
			t.Errorf("P16.2: row %d: Next(%d, %d): %+v, State %d, Sent %d, want %+v, %d, %d", i, c.room, c.more, got, s.State(), s.Sent(), c.want, c.state, c.sent)
		}
		if got := ask(t, s, 500, far); !same(got, c.after) || s.State() != c.afterStates {
			t.Errorf("P16.2: row %d: behind Next(%d, %d): %+v, State %d, want %+v, %d", i, c.room, c.more, got, s.State(), c.after, c.afterStates)
		}
		m.next(c.room, c.more)
		m.next(500, far)
		alike(t, s, m, i)
		drain(t, s, m, 22, i)
	}
}

// TestRoom asks every room of a long text, and that a frame of any stream, at offsets of each length there can be here, has room.
func TestRoom(t *testing.T) {
	for _, id := range []uint64{0, 63, 64, 1<<14 - 1, 1 << 14, 1<<30 - 1, 1 << 30, api.MaxVar} {
		for _, from := range []int{0, 1, 63, 64, 16383, 16384, 20000} {
			s := New(id)
			s.Limit(far)
			for wrote := 0; wrote < from; {
				n, why := s.Write([]byte(long(min(from-wrote, 492), wrote)))
				got := ask(t, s, 9999, far)
				if why != api.OK || !got.ok {
					t.Fatalf("P16.2: stream %d, behind %d: %v, %+v", id, wrote, why, got)
				}
				s.Acked(got.f)
				wrote += n
			}
			s.Write([]byte(long(600, from)))
			for room := -5; room < 530; room++ {
				n := min(max(room-20, 0), 492)
				want := told{}
				if n > 0 {
					want = yes(api.Frame{Kind: api.Stream, Stream: id, Offset: uint64(from), Data: []byte(long(n, from))})
				}
				got := ask(t, s, room, far)
				if !same(got, want) {
					t.Fatalf("P16.2: stream %d, offset %d, room %d: %+v", id, from, room, got)
				}
				if got.ok { // give it back, so that it is asked for again
					s.Lost(got.f)
					if again := ask(t, s, room, 0); !same(again, want) {
						t.Fatalf("P16.2: stream %d, offset %d, room %d, again: %+v", id, from, room, again)
					}
					s.Acked(got.f)
					from += n
					s.Write([]byte(long(n, int(s.Length()))))
				}
			}
		}
	}
}

// TestResetRoom asks for the Reset by every room, of numbers of every length.
func TestResetRoom(t *testing.T) {
	edges := []struct {
		n    uint64
		size int
	}{{0, 1}, {63, 1}, {64, 2}, {1<<14 - 1, 2}, {1 << 14, 4}, {1<<30 - 1, 4}, {1 << 30, 8}, {api.MaxVar, 8}}
	for _, id := range edges {
		for _, code := range edges {
			for _, final := range edges[:4] {
				n := min(int(final.n), 2048)
				s := New(id.n)
				s.Limit(uint64(n))
				s.Write([]byte(long(n, 0)))
				for range 5 {
					ask(t, s, 500, far)
				}
				if why := s.Reset(code.n); why != api.OK {
					t.Fatalf("P16.1: Reset(%d): %v", code.n, why)
				}
				size := 1 + id.size + code.size + final.size
				want := yes(api.Frame{Kind: api.Reset, Stream: id.n, Code: code.n, Final: uint64(n)})
				for _, room := range []int{math.MinInt, -1, 0, 1, size - 1} {
					if got := ask(t, s, room, far); !same(got, told{}) {
						t.Fatalf("P16.2: Reset of %d bytes, room %d: %+v", size, room, got)
					}
				}
				for _, room := range []int{size, size + 1, 512, 513, math.MaxInt} {
					if got := ask(t, s, room, 0); !same(got, want) {
						t.Fatalf("P16.2: Reset of %d bytes, room %d: %+v, want %+v", size, room, got, want)
					}
					if got := ask(t, s, room, 0); !same(got, told{}) {
						t.Fatalf("P16.2: Reset, the second time: %+v", got)
					}
					s.Lost(want.f)
				}
			}
		}
	}
}

// TestOthers tells of frames of other streams and Kinds, in every state: they are nothing.
func TestOthers(t *testing.T) {
	for i, c := range at() {
		s, m := run(t, c.l...)
		for _, id := range []uint64{0, 3, 5, 8, 4 + 1<<32, math.MaxUint64} {
			for _, f := range []api.Frame{part(0, "abcdef", true), given(7, m.sent)} {
				f.Stream = id
				s.Acked(f)
				s.Lost(f)
			}
		}
		for kind := -1; kind < 40; kind++ {
			if kind == api.Stream || kind == api.Reset {
				continue
			}
			f := api.Frame{Kind: kind, Stream: 4, Data: []byte("abcdef"), Fin: true, Code: 7, Final: m.sent, Limit: 99}
			s.Lost(f)
			s.Acked(f)
			s.Lost(f)
		}
		s.Acked(api.Frame{})
		s.Lost(api.Frame{})
		alike(t, s, m, i)
		drain(t, s, m, 21, i)
	}
}

// TestStates tells every state of a whole part, of the end, of all and of a Reset, and holds what becomes of it against what was worked out by hand.
func TestStates(t *testing.T) {
	all := part(0, "abcdef", true)
	bytesAlone := part(0, "abcdef", false)
	for i, c := range at() {
		for j, x := range []struct {
			s    step
			want func(m *model) int
		}{
			{acked(bytesAlone), func(m *model) int {
				if m.state == Whole && m.endAcked {
					return Recvd
				}
				return m.state
			}},
			{acked(all), func(m *model) int {
				if m.state == Whole {
					return Recvd
				}
				return m.state
			}},
			{acked(given(7, 6)), func(m *model) int {
				if m.state == ResetSent {
					return ResetRecvd
				}
				return m.state
			}},
			{acked(given(9, 99)), func(m *model) int {
				if m.state == ResetSent {
					return ResetRecvd
				}
				return m.state
			}},
			{lost(bytesAlone), func(m *model) int { return m.state }},
			{lost(all), func(m *model) int { return m.state }},
			{lost(given(7, 6)), func(m *model) int { return m.state }},
			{limit(0), func(m *model) int { return m.state }},
			{limit(far), func(m *model) int { return m.state }},
			{reset(5), func(m *model) int {
				if m.state < Recvd {
					return ResetSent
				}
				return m.state
			}},
			{reset(math.MaxUint64), func(m *model) int { return m.state }},
			{finish(), func(m *model) int { return m.state }},
			{write("g"), func(m *model) int { return m.state }},
		} {
			s, m := run(t, c.l...)
			want := x.want(m)
			tell(t, s, m, x.s)
			if s.State() != want {
				t.Errorf("P16: row %d, %d: State %d, want %d", i, j, s.State(), want)
			}
			drain(t, s, m, 24, []int{i, j})
		}
	}
}

// small is every step out of few numbers that lie around the first four bytes.
func small() []step {
	few := []step{write(""), write("yz"), finish(), reset(7), reset(math.MaxUint64), limit(1), limit(5), next(3, 9), next(4, 0), next(20, 9), next(21, 9), next(23, 1), next(99, 9)}
	for _, f := range []api.Frame{part(0, "ab", false), part(1, "b", true), part(2, "cd", false), part(0, "abcd", true), part(4, "", true), part(9, "", true), given(7, 0)} {
		few = append(few, acked(f), lost(f))
	}
	return few
}

// TestAll holds every row of three small steps behind some beginnings, and all that is left to be sent behind it.
func TestAll(t *testing.T) {
	few := small()
	ahead := []step{write("abcd"), limit(3)}
	for _, l := range [][]step{
		{},
		ahead,
		behind(ahead, next(22, 9)),
		behind(ahead, next(22, 9), finish()),
		behind(ahead, limit(9), finish(), next(99, 9)),
		behind(ahead, limit(9), finish(), next(99, 9), acked(part(0, "ab", false)), lost(part(2, "cd", true))),
		behind(ahead, next(22, 9), reset(9)),
	} {
		for _, x := range few {
			for _, y := range few {
				for _, z := range few {
					s, m := New(4), new4()
					for _, one := range behind(l, x, y, z) {
						tell(t, s, m, one)
						alike(t, s, m, []any{l, x, y, z})
					}
					drain(t, s, m, 22, []any{l, x, y, z})
				}
			}
		}
	}
}

// TestSizes tells of numbers of any size: nothing wraps round.
func TestSizes(t *testing.T) {
	numbers := []uint64{0, 1, 5, 6, 7, 1<<40 - 1, 1 << 40, 1<<40 + 1, api.MaxVar, api.MaxVar + 1, 1<<63 - 1, 1 << 63, far - 6, far - 5, far - 1, far}
	for i, c := range at() {
		for _, n := range numbers {
			f := part(n, "abc", true)
			r := given(n, n)
			for _, x := range [][]step{{limit(n), next(99, far)}, {next(99, n)}, {limit(far), next(99, n)}, {reset(n), next(99, n)}, {acked(f)}, {lost(f)}, {lost(r)}, {acked(r)}} {
				s, m := run(t, behind(c.l, x...)...)
				drain(t, s, m, math.MaxInt, []any{i, x})
			}
		}
		for _, room := range []int{math.MinInt, -20, -1, 0, 19, 20, 512, 513, 1 << 32, math.MaxInt} {
			s, m := run(t, behind(c.l, limit(far), next(room, far), next(room, 0))...)
			drain(t, s, m, 600, []any{i, room})
		}
	}
	// An id that no frame can have: only that calls end.
	for _, id := range []uint64{api.MaxVar + 1, 1 << 63, far} {
		s := New(id)
		s.Limit(far)
		s.Write([]byte("abc"))
		for _, room := range []int{math.MinInt, 0, 20, math.MaxInt} {
			s.Next(room, far)
		}
		s.Reset(7)
		for _, room := range []int{math.MinInt, 0, 20, math.MaxInt} {
			s.Next(room, far)
		}
		s.Lost(api.Frame{Kind: api.Reset, Stream: id})
		s.Acked(api.Frame{Kind: api.Reset, Stream: id})
		if s.State() != ResetRecvd {
			t.Errorf("R1: stream %d: State %d", id, s.State())
		}
	}
}

// odd is a step of any kind, mostly near what is under way.
func odd(r *rand.Rand, m *model) step {
	off := uint64(max(0, int(m.sent)-200+r.Intn(300)))
	f := part(off, long(r.Intn(200), int(off)), r.Intn(9) == 0)
	if r.Intn(20) == 0 {
		f = given(7, m.sent)
	}
	if r.Intn(20) == 0 {
		f.Stream = uint64(r.Intn(6))
	}
	switch k := r.Intn(200); {
	case k < 40:
		return write(long(r.Intn(400), len(m.bytes)))
	case k < 60:
		return limit(m.limit + uint64(r.Intn(600)) - 50)
	case k < 110:
		return next(r.Intn(600)-20, uint64(r.Intn(400)))
	case k < 112:
		return finish()
	case k < 113:
		return reset(uint64(r.Intn(200)))
	case k < 160:
		return acked(f)
	}
	return lost(f)
}

// TestRows holds long rows of steps of all kinds, step by step.
func TestRows(t *testing.T) {
	r := rand.New(rand.NewSource(16))
	seen := map[int]int{}
	for round := range 200 {
		s, m := New(4), new4()
		m.limit = 50
		s.Limit(50)
		for range 250 {
			x := odd(r, m)
			tell(t, s, m, x)
			alike(t, s, m, []any{round, x})
		}
		drain(t, s, m, 100, round)
		seen[s.State()]++
		for off := 0; off < int(s.Length()); off += 500 {
			tell(t, s, m, acked(part(uint64(off), long(500, 0), true)))
		}
		tell(t, s, m, acked(part(s.Length(), "", true)))
		alike(t, s, m, round)
		tell(t, s, m, acked(given(0, 0)))
		alike(t, s, m, round)
		seen[s.State()]++
	}
	for _, state := range []int{Sends, Whole, Recvd, ResetSent, ResetRecvd} {
		if seen[state] == 0 {
			t.Errorf("the rows never end in state %d", state)
		}
	}
}

// end is the other end of a stream, and the way there.
type end struct {
	under []api.Frame
	came  []byte
	known []bool
	fin   bool
	gone  bool
}

// take puts what f tells to the other end.
func (e *end) take(t *testing.T, f api.Frame) {
	if f.Kind == api.Reset {
		e.gone = true
		for i := int(f.Final); i < len(e.known); i++ {
			if e.known[i] {
				t.Fatalf("W1: Final %d, but byte %d came", f.Final, i)
			}
		}
		return
	}
	for i, b := range f.Data {
		e.came[int(f.Offset)+i], e.known[int(f.Offset)+i] = b, true
	}
	e.fin = e.fin || f.Fin
}

// carry brings one frame under way to the other end, twice at times, or loses it, and tells the sender, at times of both.
func (e *end) carry(t *testing.T, r *rand.Rand, s *Sender) {
	i := r.Intn(len(e.under))
	f := e.under[i]
	e.under = append(e.under[:i], e.under[i+1:]...)
	lose, late := r.Intn(4) == 0, r.Intn(5) == 0
	if lose || late {
		s.Lost(f)
	}
	if !lose {
		e.take(t, f)
		s.Acked(f)
	}
	if r.Intn(9) == 0 {
		s.Lost(f)
	}
}

// TestLong sends a text of many times what may wait, over a way that loses and keeps no order, and keeps to limit and more; some are given up on the way.
func TestLong(t *testing.T) {
	r := rand.New(rand.NewSource(61))
	for round := range 20 {
		text := []byte(long(9000+r.Intn(500), round))
		giveUp := len(text) * 2
		if round%3 == 0 {
			giveUp = r.Intn(len(text))
		}
		s := New(uint64(round))
		e := &end{came: make([]byte, len(text)), known: make([]bool, len(text))}
		wrote, top := 0, uint64(0)
		for n := 0; s.State() != Recvd && s.State() != ResetRecvd; n++ {
			if n > 100000 {
				t.Fatalf("W4: round %d: it does not come through", round)
			}
			if k, why := s.Write(text[wrote:min(len(text), wrote+r.Intn(300))]); why == api.OK {
				wrote += k
			}
			if wrote == len(text) {
				s.Finish()
			}
			if wrote > giveUp {
				s.Reset(7)
			}
			top = max(top, uint64(n*100-r.Intn(50)*2))
			s.Limit(top)
			more, sent := uint64(r.Intn(200)), s.Sent()
			got := ask(t, s, r.Intn(600), more)
			if got.ok {
				f := got.f
				if f.Stream != uint64(round) || s.Sent() > sent+more || s.Sent() > top || f.Kind == api.Stream && !bytes.HasPrefix(text[f.Offset:], f.Data) {
					t.Fatalf("P16.2: round %d: %+v, Sent %d behind %d with %d more, limit %d", round, f, s.Sent(), sent, more, top)
				}
				e.under = append(e.under, f)
			}
			if len(e.under) > 0 && (!got.ok || r.Intn(3) > 0) {
				e.carry(t, r, s)
			}
		}
		if giveUp < len(text) {
			if !e.gone || s.State() != ResetRecvd {
				t.Fatalf("W1: round %d: the reset did not come: State %d", round, s.State())
			}
			continue
		}
		if !e.fin || !bytes.Equal(e.came, text) {
			t.Fatalf("W1: round %d: other bytes came", round)
		}
	}
}

// spoil writes over all of x, its spare room too.
func spoil(x []byte) {
	x = x[:cap(x)]
	for i := range x {
		x[i] = '!'
	}
}

// TestMemory asks that what is handed in is neither kept nor changed, nor its spare room, and that no answer shares memory.
func TestMemory(t *testing.T) {
	s := New(4)
	s.Limit(99)
	row := []byte("..abcdef..")
	if n, why := s.Write(row[2:8]); n != 6 || why != api.OK || string(row) != "..abcdef.." {
		t.Fatalf("R2: Write: %s", row)
	}
	copy(row, "zzzzzzzzzz")
	x, y := ask(t, s, 23, 99), ask(t, s, 22, 99)
	if !same(x, yes(part(0, "abc", false))) || !same(y, yes(part(3, "de", false))) {
		t.Fatalf("R2: what was handed in is kept: %+v, %+v", x, y)
	}
	spoil(x.f.Data)
	if string(y.f.Data) != "de" {
		t.Errorf("R2: two answers share memory: %s", y.f.Data)
	}
	spoil(y.f.Data)
	told := []byte("..abcde..")
	f := part(0, "", false)
	f.Data = told[2:7]
	s.Lost(f)
	spoil(f.Data)
	if got := ask(t, s, 99, 0); !same(got, yes(part(0, "abcde", false))) {
		t.Errorf("R2: an answer shares memory with the sender: %+v", got)
	}
	told = []byte("..ab..")
	f.Data = told[2:4]
	s.Acked(f)
	if string(told) != "..ab.." {
		t.Errorf("R2: what was handed in is changed: %s", told)
	}
	s.Finish()
	if got := ask(t, s, 99, 99); !same(got, yes(part(5, "f", true))) {
		t.Errorf("P16.2: the end: %+v", got)
	}
	s.Lost(part(6, "", true))
	last := ask(t, s, 20, 0)
	spoil(append(last.f.Data, 'z'))
	s.Lost(part(0, "abcdef", true))
	if got := ask(t, s, 99, 0); !same(got, yes(part(2, "cdef", true))) {
		t.Errorf("R2: an answer shares memory with the sender: %+v", got)
	}
}

// TestAlone asks that no sender sees what another one is told, and that asking changes nothing.
func TestAlone(t *testing.T) {
	var all []*Sender
	var models []*model
	for _, c := range at() {
		s, m := run(t, c.l...)
		all, models = append(all, s), append(models, m)
	}
	for range 3 {
		for i, s := range all {
			alike(t, s, models[i], i)
		}
	}
	for i, s := range all {
		drain(t, s, models[i], 21+i, i)
		tell(t, s, models[i], acked(part(0, "abcdef", true)))
		for j, other := range all {
			alike(t, other, models[j], []int{i, j})
		}
	}
}

// TestMany asks that nothing is lost where one byte goes after the other.
func TestMany(t *testing.T) {
	s, m := run(t, limit(far))
	text := strings.Repeat("abcdefg", 900)
	for i := range text {
		tell(t, s, m, write(text[i:i+1]))
		tell(t, s, m, next(21, 1))
		if i%2 == 0 {
			tell(t, s, m, lost(part(uint64(i), text[i:i+1], false)))
			tell(t, s, m, next(21, 0))
		}
		tell(t, s, m, acked(part(uint64(i), text[i:i+1], false)))
	}
	alike(t, s, m, "all")
	tell(t, s, m, finish())
	tell(t, s, m, next(20, 0))
	tell(t, s, m, acked(part(uint64(len(text)), "", true)))
	if alike(t, s, m, "the end"); s.State() != Recvd {
		t.Errorf("P16.2: State %d", s.State())
	}
}
