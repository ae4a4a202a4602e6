package outbuf

import (
	"bytes"
	"math"
	"math/rand"
	"testing"

	"narthex/api"
)

// step is one thing that a buffer is told, by the name of the call.
type step struct {
	call  string
	data  string
	most  int
	limit uint64
	off   uint64
	n     int
	fin   bool
}

func write(data string) step           { return step{call: "Write", data: data} }
func finish() step                     { return step{call: "Finish"} }
func next(most int, limit uint64) step { return step{call: "Next", most: most, limit: limit} }
func acked(off uint64, n int) step     { return step{call: "Acked", off: off, n: n} }
func lost(off uint64, n int) step      { return step{call: "Lost", off: off, n: n} }

// too is s with the stream's end.
func (s step) too() step {
	s.fin = true
	return s
}

// told is what Next tells.
type told struct {
	off  uint64
	data string
	end  bool
	ok   bool
}

// model is a buffer by the chapter's words: every byte that was ever written is kept, and what is known of each, and all is gone through byte by byte.
type model struct {
	bytes                             []byte
	acked, lost                       []bool
	sent                              uint64
	ended, endSent, endLost, endAcked bool
}

// base is the lowest offset that is not acknowledged, or the length.
func (m *model) base() int {
	for i, a := range m.acked {
		if !a {
			return i
		}
	}
	return len(m.bytes)
}

// room is P15.1's Room.
func (m *model) room() int {
	if m.ended {
		return 0
	}
	return 2048 - (len(m.bytes) - m.base())
}

// write is P15.1's Write.
func (m *model) write(data string) int {
	n := 0
	for ; n < len(data) && m.room() > 0; n++ {
		m.bytes = append(m.bytes, data[n])
		m.acked = append(m.acked, false)
		m.lost = append(m.lost, false)
	}
	return n
}

// endDue is whether the end is to be sent.
func (m *model) endDue() bool {
	return m.ended && (!m.endSent || m.endLost) && !m.endAcked
}

// row is the offset of the bytes that are to be sent, and how many they are, most at most.
func (m *model) row(most, limit uint64) (int, int) {
	from := 0
	for from < len(m.lost) && !m.lost[from] {
		from++
	}
	n := 0
	if from < len(m.lost) {
		for from+n < len(m.lost) && m.lost[from+n] && uint64(n) < most {
			n++
		}
		return from, n
	}
	from = int(m.sent)
	for from+n < len(m.bytes) && uint64(from+n) < limit && uint64(n) < most {
		n++
	}
	return from, n
}

// next is P15.2's Next.
func (m *model) next(most int, limit uint64) told {
	length := uint64(len(m.bytes))
	if _, any := m.row(math.MaxUint64, limit); any == 0 {
		if !m.endDue() || m.sent < length {
			return told{}
		}
		m.endSent, m.endLost = true, false
		return told{off: length, end: true, ok: true}
	}
	if most < 1 {
		return told{}
	}
	from, n := m.row(uint64(most), limit)
	for i := from; i < from+n; i++ {
		m.lost[i] = false
	}
	if to := uint64(from + n); to > m.sent {
		m.sent = to
	}
	out := told{off: uint64(from), data: string(m.bytes[from : from+n]), ok: true}
	if from+n == len(m.bytes) && m.endDue() {
		out.end, m.endSent, m.endLost = true, true, false
	}
	return out
}

// each goes through those of n bytes from off on that were sent.
func (m *model) each(off uint64, n int, do func(i uint64)) {
	for i := range m.sent {
		if i >= off && n > 0 && i-off < uint64(n) {
			do(i)
		}
	}
}

// ack is P15.3's Acked.
func (m *model) ack(off uint64, n int, fin bool) {
	m.each(off, n, func(i uint64) { m.acked[i], m.lost[i] = true, false })
	if fin && m.endSent {
		m.endAcked = true
	}
}

// lose is P15.3's Lost.
func (m *model) lose(off uint64, n int, fin bool) {
	m.each(off, n, func(i uint64) { m.lost[i] = !m.acked[i] })
	if fin && m.endSent && !m.endAcked {
		m.endLost = true
	}
}

// waits is P15.2's Waits: Next of a byte, of a model by itself.
func (m *model) waits(limit uint64) bool {
	c := *m
	c.lost = append([]bool(nil), m.lost...)
	return c.next(1, limit).ok
}

// whole is P15.3's Whole.
func (m *model) whole() bool { return m.ended && m.endAcked && m.base() == len(m.bytes) }

// alike holds every answer of b that changes nothing against the model's, and that b keeps within its bounds.
func alike(t *testing.T, b *Buffer, m *model, behind any) {
	t.Helper()
	if b.Length() != uint64(len(m.bytes)) || b.Room() != m.room() {
		t.Fatalf("P15.1: behind %+v: Length %d, Room %d, want %d, %d", behind, b.Length(), b.Room(), len(m.bytes), m.room())
	}
	if b.Sent() != m.sent {
		t.Fatalf("P15.2: behind %+v: Sent %d, want %d", behind, b.Sent(), m.sent)
	}
	for _, limit := range []uint64{0, m.sent, m.sent + 1, math.MaxUint64} {
		if got, want := b.Waits(limit), m.waits(limit); got != want {
			t.Fatalf("P15.2: behind %+v: Waits(%d): %v, want %v", behind, limit, got, want)
		}
	}
	if b.Whole() != m.whole() {
		t.Fatalf("P15.3: behind %+v: Whole %v, want %v", behind, b.Whole(), m.whole())
	}
	if len(b.waits) > api.MaxBuffer || cap(b.waits) > 2*api.MaxBuffer || b.acked.Len() > api.MaxBuffer/2+1 || b.lost.Len() > api.MaxBuffer/2 {
		t.Fatalf("W3: behind %+v: %d bytes in room for %d, %d and %d ranges", behind, len(b.waits), cap(b.waits), b.acked.Len(), b.lost.Len())
	}
}

// ask is what b tells by Next.
func ask(b *Buffer, most int, limit uint64) told {
	off, data, end, ok := b.Next(most, limit)
	return told{off, string(data), end, ok}
}

// tell tells both of s and holds their answers against each other.
func tell(t *testing.T, b *Buffer, m *model, s step) {
	t.Helper()
	switch s.call {
	case "Write":
		want := m.write(s.data)
		if got := b.Write([]byte(s.data)); got != want {
			t.Fatalf("P15.1: Write of %d bytes: %d, want %d", len(s.data), got, want)
		}
	case "Finish":
		want := !m.ended
		m.ended = true
		if got := b.Finish(); got != want {
			t.Fatalf("P15.1: Finish: %v, want %v", got, want)
		}
	case "Next":
		want := m.next(s.most, s.limit)
		if got := ask(b, s.most, s.limit); got != want {
			t.Fatalf("P15.2: Next(%d, %d): %+v, want %+v", s.most, s.limit, got, want)
		}
	case "Acked":
		m.ack(s.off, s.n, s.fin)
		b.Acked(s.off, s.n, s.fin)
	case "Lost":
		m.lose(s.off, s.n, s.fin)
		b.Lost(s.off, s.n, s.fin)
	}
}

// run tells a new buffer and a new model of l, and holds them against each other behind each step.
func run(t *testing.T, l ...step) (*Buffer, *model) {
	t.Helper()
	b, m := New(), &model{}
	alike(t, b, m, nil)
	for i, s := range l {
		tell(t, b, m, s)
		alike(t, b, m, l[:i+1])
	}
	return b, m
}

// drain asks both for all that is left to be sent, by steps of most, and lets it be lost and acknowledged.
func drain(t *testing.T, b *Buffer, m *model, most int, behind any) {
	t.Helper()
	for m.waits(math.MaxUint64) {
		tell(t, b, m, next(most, math.MaxUint64))
	}
	tell(t, b, m, next(most, math.MaxUint64))
	alike(t, b, m, behind)
}

// long is n bytes, none like its neighbours, and other ones for another from.
func long(n, from int) string {
	b := make([]byte, n)
	for i := range b {
		b[i] = byte((from + i) % 251)
	}
	return string(b)
}

func TestRun(t *testing.T) {
	b := New()
	if n := b.Write([]byte("abc")); n != 3 {
		t.Errorf("P15.1: the run: %d", n)
	}
	if got := ask(b, 2, 9); got != (told{0, "ab", false, true}) {
		t.Errorf("P15.2: the run: %+v", got)
	}
	b.Finish()
	if n := b.Write([]byte("d")); n != 0 || b.Length() != 3 {
		t.Errorf("P15.1: example 1: %d, Length %d", n, b.Length())
	}
	b.Acked(2, 1, true)
	if b.Room() != 0 || b.Whole() || b.Sent() != 2 || ask(b, 9, 9) != (told{2, "c", true, true}) {
		t.Error("P15.3: example 2")
	}
}

// TestNext holds what Next tells against rows that were worked out by hand.
func TestNext(t *testing.T) {
	const far = math.MaxUint64
	abc := []step{write("abcdef")}
	sent := append(abc, next(6, far))
	three := append(abc, next(3, far))
	none := told{}
	for i, c := range []struct {
		ahead       []step
		then        []step
		most        int
		limit       uint64
		want, after told
	}{
		// Nothing.
		{nil, nil, 9, far, none, none},
		{sent, nil, 9, far, none, none},
		{sent, []step{acked(0, 6)}, 9, far, none, none},
		// From Sent on, up to limit, most at most.
		{abc, nil, 9, far, told{0, "abcdef", false, true}, none},
		{abc, nil, 1, far, told{0, "a", false, true}, told{1, "bcdef", false, true}},
		{abc, nil, 6, 6, told{0, "abcdef", false, true}, none},
		{abc, nil, 9, 5, told{0, "abcde", false, true}, told{5, "f", false, true}},
		{abc, nil, 4, 5, told{0, "abcd", false, true}, told{4, "ef", false, true}},
		{abc, nil, 5, 4, told{0, "abcd", false, true}, told{4, "ef", false, true}},
		{abc, nil, 9, 0, none, told{0, "abcdef", false, true}},
		{three, nil, 9, 3, none, told{3, "def", false, true}},
		{three, nil, 9, 2, none, told{3, "def", false, true}},
		{three, nil, 9, 4, told{3, "d", false, true}, told{4, "ef", false, true}},
		{three, []step{acked(0, 3)}, 9, 4, told{3, "d", false, true}, told{4, "ef", false, true}},
		{abc, nil, 0, far, none, told{0, "abcdef", false, true}},
		{abc, nil, -1, far, none, told{0, "abcdef", false, true}},
		{abc, nil, math.MinInt, far, none, told{0, "abcdef", false, true}},
		{abc, nil, math.MaxInt, far, told{0, "abcdef", false, true}, none},
		// What was lost goes first, whatever the limit, the lowest, up to a gap.
		{sent, []step{lost(1, 2)}, 9, 0, told{1, "bc", false, true}, none},
		{sent, []step{lost(4, 2), lost(0, 2)}, 9, 0, told{0, "ab", false, true}, told{4, "ef", false, true}},
		{sent, []step{lost(0, 2), lost(2, 2)}, 9, 0, told{0, "abcd", false, true}, none},
		{sent, []step{lost(0, 6)}, 2, 0, told{0, "ab", false, true}, told{2, "cdef", false, true}},
		{sent, []step{lost(0, 6), acked(2, 1)}, 9, 0, told{0, "ab", false, true}, told{3, "def", false, true}},
		{sent, []step{acked(2, 1), lost(0, 6)}, 9, 0, told{0, "ab", false, true}, told{3, "def", false, true}},
		{sent, []step{lost(0, 6), next(2, 0)}, 9, 0, told{2, "cdef", false, true}, none},
		{sent, []step{lost(0, 6), next(2, 0), lost(0, 1)}, 9, 0, told{0, "a", false, true}, told{2, "cdef", false, true}},
		{sent, []step{lost(0, 6), next(6, 0)}, 9, 0, none, none},
		{sent, []step{lost(0, 6), next(6, 0), lost(3, 1)}, 9, 0, told{3, "d", false, true}, none},
		{sent, []step{lost(1, 1)}, 0, far, none, told{1, "b", false, true}},
		{sent, []step{lost(1, 1)}, -1, far, none, told{1, "b", false, true}},
		{three, []step{lost(1, 2)}, 9, far, told{1, "bc", false, true}, told{3, "def", false, true}},
		{three, []step{lost(1, 9)}, 9, 0, told{1, "bc", false, true}, told{3, "def", false, true}},
		{three, []step{lost(3, 9)}, 9, 4, told{3, "d", false, true}, told{4, "ef", false, true}},
		// The end, behind the last byte.
		{abc, []step{finish()}, 9, far, told{0, "abcdef", true, true}, none},
		{abc, []step{finish()}, 6, 6, told{0, "abcdef", true, true}, none},
		{abc, []step{finish()}, 5, far, told{0, "abcde", false, true}, told{5, "f", true, true}},
		{abc, []step{finish()}, 9, 5, told{0, "abcde", false, true}, told{5, "f", true, true}},
		{abc, []step{finish(), next(9, far)}, 9, far, none, none},
		// The end alone, whatever most and limit are.
		{nil, []step{finish()}, 9, far, told{0, "", true, true}, none},
		{nil, []step{finish()}, 0, 0, told{0, "", true, true}, none},
		{nil, []step{finish()}, math.MinInt, 0, told{0, "", true, true}, none},
		{sent, []step{finish()}, 0, 0, told{6, "", true, true}, none},
		{sent, []step{finish()}, math.MaxInt, far, told{6, "", true, true}, none},
		{sent, []step{acked(0, 6), finish()}, -9, 0, told{6, "", true, true}, none},
		// Bytes go ahead of it: it isn't alone.
		{abc, []step{finish()}, 0, far, none, told{0, "abcdef", true, true}},
		{abc, []step{finish()}, 9, 0, none, told{0, "abcdef", true, true}},
		{three, []step{finish()}, 9, 3, none, told{3, "def", true, true}},
		{sent, []step{lost(1, 1), finish()}, 0, far, none, told{1, "b", false, true}},
		{sent, []step{lost(1, 1), finish()}, 9, far, told{1, "b", false, true}, told{6, "", true, true}},
		{sent, []step{lost(5, 1), finish()}, 9, far, told{5, "f", true, true}, none},
		{sent, []step{lost(4, 2), finish()}, 1, far, told{4, "e", false, true}, told{5, "f", true, true}},
		// Of what is sent again the end is where it was lost too.
		{sent, []step{finish(), next(0, 0), lost(5, 1)}, 9, 0, told{5, "f", false, true}, none},
		{sent, []step{finish(), next(0, 0), lost(5, 1).too()}, 9, 0, told{5, "f", true, true}, none},
		{sent, []step{finish(), next(0, 0), lost(0, 1).too()}, 9, 0, told{0, "a", false, true}, told{6, "", true, true}},
		{sent, []step{finish(), next(0, 0), lost(0, 0).too()}, 9, 0, told{6, "", true, true}, none},
		{sent, []step{finish(), next(0, 0), lost(6, 0).too(), next(0, 0)}, 9, far, none, none},
		{sent, []step{finish(), next(0, 0), lost(6, 0).too(), next(0, 0), lost(6, 0).too()}, 9, far, told{6, "", true, true}, none},
		{sent, []step{finish(), next(0, 0), lost(5, 1).too(), acked(6, 0).too()}, 9, 0, told{5, "f", false, true}, none},
		{sent, []step{finish(), next(0, 0), acked(6, 0).too(), lost(5, 1).too()}, 9, 0, told{5, "f", false, true}, none},
		{sent, []step{finish(), next(0, 0), lost(6, 0).too(), acked(0, 6)}, 9, 0, told{6, "", true, true}, none},
		{sent, []step{finish(), next(0, 0), lost(6, 0).too(), acked(0, 6).too()}, 9, far, none, none},
		// An end that was not sent is neither lost nor acknowledged.
		{sent, []step{lost(6, 0).too()}, 9, far, none, none},
		{sent, []step{acked(6, 0).too(), finish()}, 9, far, told{6, "", true, true}, none},
		{sent, []step{finish(), acked(6, 0).too()}, 9, far, told{6, "", true, true}, none},
		{three, []step{finish(), acked(0, 9).too()}, 9, far, told{3, "def", true, true}, none},
	} {
		l := append(c.ahead[:len(c.ahead):len(c.ahead)], c.then...)
		b, m := run(t, l...)
		if c.most > 0 && b.Waits(c.limit) != c.want.ok {
			t.Errorf("P15.2: row %d: Waits(%d): %v", i, c.limit, b.Waits(c.limit))
		}
		if got := ask(b, c.most, c.limit); got != c.want {
			t.Errorf("P15.2: row %d: Next(%d, %d): %+v, want %+v", i, c.most, c.limit, got, c.want)
		}
		if got := ask(b, 99, far); got != c.after {
			t.Errorf("P15.2: row %d: behind Next(%d, %d): %+v, want %+v", i, c.most, c.limit, got, c.after)
		}
		m.next(c.most, c.limit)
		m.next(99, far)
		alike(t, b, m, l)
	}
}

// TestRoom holds Room and Write against numbers that were worked out by hand.
func TestRoom(t *testing.T) {
	full := []step{write(long(2048, 0)), next(500, 9999)}
	for i, c := range []struct {
		ahead       []step
		room        int
		data, wrote int
		after       int
	}{
		{nil, 2048, 0, 0, 2048},
		{nil, 2048, 1, 1, 2047},
		{nil, 2048, 2047, 2047, 1},
		{nil, 2048, 2048, 2048, 0},
		{nil, 2048, 2049, 2048, 0},
		{nil, 2048, 100000, 2048, 0},
		{[]step{write("ab")}, 2046, 5, 5, 2041},
		{[]step{write("ab")}, 2046, 2047, 2046, 0},
		{full, 0, 1, 0, 0},
		{append(full, acked(0, 500)), 500, 501, 500, 0},
		{append(full, acked(0, 9999)), 500, 501, 500, 0},
		{append(full, acked(1, 499)), 0, 1, 0, 0},
		{append(full, acked(1, 499), acked(0, 1)), 500, 1, 1, 499},
		{append(full, acked(0, 100), acked(101, 399)), 100, 101, 100, 0},
		{append(full, acked(0, 100), lost(0, 500)), 100, 101, 100, 0},
		{append(full, acked(500, 9999)), 0, 1, 0, 0},
		{append(full, next(2000, 9999), acked(0, 2048)), 2048, 2049, 2048, 0},
		{append(full, next(2000, 9999), acked(0, 2047)), 2047, 9, 9, 2038},
		{[]step{finish()}, 0, 5, 0, 0},
		{[]step{write("ab"), finish()}, 0, 5, 0, 0},
		{[]step{write("ab"), finish(), next(9, 9), acked(0, 2)}, 0, 5, 0, 0},
		{[]step{write("ab"), finish(), next(9, 9), acked(0, 2).too()}, 0, 5, 0, 0},
	} {
		b, m := run(t, c.ahead...)
		length := b.Length()
		if b.Room() != c.room {
			t.Errorf("P15.1: row %d: Room %d, want %d", i, b.Room(), c.room)
		}
		if got := b.Write([]byte(long(c.data, 7))); got != c.wrote {
			t.Errorf("P15.1: row %d: Write of %d: %d, want %d", i, c.data, got, c.wrote)
		}
		if b.Room() != c.after || b.Length() != length+uint64(c.wrote) {
			t.Errorf("P15.1: row %d: behind Write: Room %d, Length %d, want %d, %d", i, b.Room(), b.Length(), c.after, length+uint64(c.wrote))
		}
		m.write(long(c.data, 7))
		drain(t, b, m, 300, i)
	}
}

// small is every step out of few numbers that lie around the first four bytes.
func small() []step {
	few := []step{write(""), write("y"), write("yz"), finish(), next(-1, 0), next(0, 9), acked(0, -1), lost(0, -1)}
	for _, most := range []int{1, 9} {
		for _, limit := range []uint64{0, 3, 9} {
			few = append(few, next(most, limit))
		}
	}
	for off := range uint64(4) {
		for _, n := range []int{0, 1, 2, 9} {
			few = append(few, acked(off, n), lost(off, n))
		}
	}
	return append(few, acked(0, 0).too(), lost(0, 0).too(), acked(2, 2).too(), lost(2, 2).too())
}

// TestAll holds every row of three small steps behind some beginnings, and all that is left to be sent behind it.
func TestAll(t *testing.T) {
	few := small()
	for _, ahead := range [][]step{
		{},
		{write("abcd"), next(2, 9)},
		{write("abcd"), next(9, 9), lost(1, 1)},
		{write("abc"), next(9, 9), finish()},
		{write("abcd"), finish(), next(9, 9), acked(1, 1)},
		{write("abcd"), finish(), next(9, 9), lost(0, 4).too(), next(3, 9)},
	} {
		for _, x := range few {
			for _, y := range few {
				for _, z := range few {
					b, m := New(), &model{}
					for _, s := range append(ahead[:len(ahead):len(ahead)], x, y, z) {
						tell(t, b, m, s)
					}
					alike(t, b, m, []any{ahead, x, y, z})
					drain(t, b, m, 3, []any{ahead, x, y, z})
				}
			}
		}
	}
}

// TestSizes tells of numbers of any size: what was not sent is passed by, and nothing wraps round.
func TestSizes(t *testing.T) {
	offs := []uint64{0, 1, 5, 6, 7, 8, 9, 1 << 40, 1 << 62, 1<<62 + 1, 1<<63 - 1, 1 << 63, math.MaxUint64 - 5, math.MaxUint64}
	ns := []int{math.MinInt, -1 << 32, -5, -1, 0, 1, 2, 6, 7, 1 << 32, math.MaxInt - 5, math.MaxInt}
	for _, ahead := range [][]step{
		{},
		{write("abcdefgh"), next(6, 9)},
		{write("abcdefgh"), next(6, 9), acked(0, 2), lost(3, 1)},
		{write("abcdefgh"), finish(), next(6, 9), next(6, 9)},
		{write("abcdefgh"), finish(), next(6, 9), next(6, 9), acked(0, 8)},
	} {
		for _, off := range offs {
			for _, n := range ns {
				for _, s := range []step{acked(off, n), lost(off, n), acked(off, n).too(), lost(off, n).too()} {
					b, m := run(t, append(ahead[:len(ahead):len(ahead)], s)...)
					drain(t, b, m, math.MaxInt, []any{ahead, s})
					tell(t, b, m, acked(0, 8).too())
					alike(t, b, m, []any{ahead, s})
				}
			}
			b, m := run(t, append(ahead[:len(ahead):len(ahead)], next(math.MaxInt, off))...)
			tell(t, b, m, next(math.MinInt, off))
			drain(t, b, m, math.MaxInt, []any{ahead, off})
		}
	}
}

// TestEnd asks the end's whole way, of a stream of nothing and of one of bytes: sent, lost, sent again, acknowledged, once for all.
func TestEnd(t *testing.T) {
	for _, text := range []string{"", "abc"} {
		b, m := run(t, write(text))
		end := told{uint64(len(text)), "", true, true}
		ask(b, 9, 9)
		m.next(9, 9)
		if !b.Finish() || b.Finish() || b.Finish() || b.Length() != uint64(len(text)) || b.Whole() {
			t.Errorf("P15.1: %q: Finish", text)
		}
		m.ended = true
		alike(t, b, m, text)
		for round := range 3 {
			if !b.Waits(0) || ask(b, 0, 0) != end || b.Waits(0) || ask(b, 9, 9).ok {
				t.Errorf("P15.2: %q: the end, for the %dth time", text, round)
			}
			b.Acked(0, 9, false)
			if b.Whole() {
				t.Errorf("P15.3: %q: Whole without the end", text)
			}
			b.Lost(math.MaxUint64, math.MinInt, true)
		}
		// A late word of one that was sent ahead is good for all of them.
		b.Acked(0, 0, true)
		if !b.Whole() || b.Waits(9) || ask(b, 9, 9).ok {
			t.Errorf("P15.3: %q: the end was acknowledged", text)
		}
		b.Lost(0, 9, true)
		b.Acked(0, 9, true)
		if !b.Whole() || b.Waits(9) || ask(b, 9, 9).ok || b.Finish() || b.Room() != 0 || b.Write([]byte("d")) != 0 || b.Length() != uint64(len(text)) {
			t.Errorf("P15.3: %q: behind the end", text)
		}
	}
}

// TestWhole asks that each byte, and the end, is needed.
func TestWhole(t *testing.T) {
	const n = 5
	for left := range 1 << (n + 1) {
		b, m := run(t, write(long(n, 0)), finish(), next(9, 9))
		for i := range uint64(n) {
			if left>>i&1 == 0 {
				tell(t, b, m, acked(i, 1))
			}
		}
		if left>>n == 0 {
			tell(t, b, m, acked(0, 0).too())
		}
		alike(t, b, m, left)
		if b.Whole() != (left == 0) {
			t.Errorf("P15.3: without %b: Whole %v", left, b.Whole())
		}
		tell(t, b, m, lost(0, n).too())
		drain(t, b, m, 2, left)
	}
}

// TestApart asks for as many ranges apart from each other as there can be, lost and acknowledged: none is dropped.
func TestApart(t *testing.T) {
	for _, ahead := range []int{0, 1, 777} {
		for _, first := range []uint64{0, 1} {
			b, m := run(t, write(long(ahead, 0)), next(ahead, 9999), acked(0, ahead), write(long(2048, ahead)), next(9999, 9999))
			at := uint64(ahead)
			for i := uint64(0); i < 2048; i += 2 {
				tell(t, b, m, lost(at+2046-i+first, 1))
			}
			alike(t, b, m, []any{ahead, first, "lost"})
			for i := uint64(0); i < 2048; i += 2 {
				if got, want := ask(b, 9, 0), m.next(9, 0); got != want || got.off != at+i+first || len(got.data) != 1 {
					t.Fatalf("P15.2: one of each two, behind %d: %+v, want %+v", ahead, got, want)
				}
			}
			alike(t, b, m, []any{ahead, first, "sent again"})
			for i := uint64(0); i < 2048; i += 2 {
				tell(t, b, m, acked(at+2046-i+first, 1))
			}
			alike(t, b, m, []any{ahead, first, "acknowledged"})
			tell(t, b, m, lost(0, 9999))
			alike(t, b, m, []any{ahead, first, "the others lost"})
			drain(t, b, m, 9, []any{ahead, first})
			tell(t, b, m, acked(0, 9999))
			alike(t, b, m, []any{ahead, first, "all"})
			if b.Room() != 2048 {
				t.Errorf("P15.1: behind all, of %d: Room %d", ahead, b.Room())
			}
		}
	}
}

// odd is a step of any kind, mostly near what is under way.
func odd(r *rand.Rand, m *model) step {
	base := m.base()
	span := int(m.sent) - base
	off := uint64(max(0, base-20+r.Intn(span+60)))
	n := r.Intn(90) - 3
	if r.Intn(40) == 0 {
		off = []uint64{0, m.sent, m.sent - 1, 1 << 40, math.MaxUint64}[r.Intn(5)]
		n = []int{math.MinInt, 0, 1, span, math.MaxInt}[r.Intn(5)]
	}
	s := step{off: off, n: n, fin: r.Intn(20) == 0}
	switch k := r.Intn(20); {
	case k < 4:
		return write(long(r.Intn(400), r.Intn(999)))
	case k < 10:
		limit := m.sent + uint64(r.Intn(300))
		if r.Intn(3) == 0 {
			limit = uint64(len(m.bytes))
		}
		return next(r.Intn(300)-4, limit)
	case k < 15:
		s.call = "Acked"
	default:
		s.call = "Lost"
	}
	if r.Intn(200) == 0 {
		return finish()
	}
	return s
}

// TestRows holds long rows of steps of all kinds, step by step.
func TestRows(t *testing.T) {
	r := rand.New(rand.NewSource(15))
	for round := range 120 {
		b, m := New(), &model{}
		for range 400 {
			s := odd(r, m)
			tell(t, b, m, s)
			alike(t, b, m, []any{round, s})
		}
		tell(t, b, m, finish())
		drain(t, b, m, 100, round)
		tell(t, b, m, acked(0, math.MaxInt).too())
		alike(t, b, m, round)
		if !b.Whole() {
			t.Fatalf("P15.3: round %d: not Whole", round)
		}
	}
}

// way is what lies between a buffer and the other end, which keeps the bytes that came by their offsets.
type way struct {
	under []told
	came  []byte
	known []bool
	end   bool
}

// carry brings what is at i to the other end, or loses it, and tells the buffer, now or, with late, of both, the loss first.
func (w *way) carry(b *Buffer, i int, lose, late bool) {
	p := w.under[i]
	w.under = append(w.under[:i], w.under[i+1:]...)
	if lose || late {
		b.Lost(p.off, len(p.data), p.end)
	}
	if lose {
		return
	}
	copy(w.came[p.off:], p.data)
	for k := range len(p.data) {
		w.known[int(p.off)+k] = true
	}
	w.end = w.end || p.end
	b.Acked(p.off, len(p.data), p.end)
}

// all is whether all came, and the end.
func (w *way) all() bool {
	for _, k := range w.known {
		if !k {
			return false
		}
	}
	return w.end
}

// TestLong sends a text of many times what may wait, over a way that loses, and keeps no order.
func TestLong(t *testing.T) {
	r := rand.New(rand.NewSource(4))
	for round := range 12 {
		text := []byte(long(20000+r.Intn(500), round))
		b := New()
		w := &way{came: make([]byte, len(text)), known: make([]bool, len(text))}
		wrote, limit := 0, uint64(0)
		for n := 0; !b.Whole(); n++ {
			if n > 100000 {
				t.Fatalf("P15.3: round %d: not Whole", round)
			}
			wrote += b.Write(text[wrote:min(len(text), wrote+r.Intn(300))])
			if wrote == len(text) {
				b.Finish()
			}
			limit += uint64(r.Intn(120))
			p := ask(b, 1+r.Intn(200), limit)
			if p.ok {
				if p.off+uint64(len(p.data)) > limit || p.data != string(text[p.off:int(p.off)+len(p.data)]) || p.end && int(p.off)+len(p.data) != len(text) {
					t.Fatalf("P15.2: round %d: %d bytes at %d, limit %d, %v", round, len(p.data), p.off, limit, p.end)
				}
				w.under = append(w.under, p)
			}
			if len(w.under) > 0 && (!p.ok || r.Intn(3) > 0) {
				w.carry(b, r.Intn(len(w.under)), r.Intn(4) == 0, r.Intn(4) == 0)
			}
			if len(w.under) > 4000 || b.Whole() != (b.Room() == 0 && wrote == len(text) && w.all()) {
				t.Fatalf("P15.3: round %d: Whole %v, all came %v, %d under way", round, b.Whole(), w.all(), len(w.under))
			}
		}
		if !bytes.Equal(w.came, text) {
			t.Fatalf("W1: round %d: other bytes came", round)
		}
	}
}

// TestMemory asks that what is handed in is neither kept nor changed, nor its spare room, and that no answer shares memory.
func TestMemory(t *testing.T) {
	b := New()
	row := []byte("..abcdef..")
	if b.Write(row[2:8]) != 6 || string(row) != "..abcdef.." {
		t.Fatalf("R2: Write: %s", row)
	}
	copy(row, "zzzzzzzzzz")
	_, x, _, _ := b.Next(3, 9)
	_, y, _, _ := b.Next(2, 9)
	if string(x) != "abc" || string(y) != "de" {
		t.Fatalf("R2: what was handed in is kept: %s, %s", x, y)
	}
	spoil(x)
	if string(y) != "de" {
		t.Errorf("R2: two answers share memory: %s", y)
	}
	spoil(y)
	b.Lost(0, 5, false)
	if got := ask(b, 9, 9); got.data != "abcde" {
		t.Errorf("R2: an answer shares memory with the buffer: %+v", got)
	}
	_, x, _, _ = b.Next(9, 9)
	spoil(x)
	b.Write([]byte("ghi"))
	b.Acked(0, 2, false)
	b.Lost(0, 99, false)
	if x, y := ask(b, 9, 99), ask(b, 9, 99); x.data != "cdef" || y.data != "ghi" {
		t.Errorf("R2: an answer shares memory with the buffer: %+v, %+v", x, y)
	}
	// An answer of nothing too.
	b.Finish()
	_, x, _, _ = b.Next(0, 0)
	spoil(append(x, 'z'))
	b.Lost(0, 99, true)
	if got := ask(b, 99, 0); got != (told{2, "cdefghi", true, true}) {
		t.Errorf("R2: an answer shares memory with the buffer: %+v", got)
	}
}

// TestKept asks that no more bytes are kept than wait, however many went.
func TestKept(t *testing.T) {
	b, m := New(), &model{}
	for n := range 200 {
		tell(t, b, m, write(long(100, n)))
		tell(t, b, m, next(100, math.MaxUint64))
		tell(t, b, m, acked(uint64(100*n), 100))
		if len(b.waits) != 0 || cap(b.waits) > api.MaxBuffer || b.acked.Len() != 1 || b.lost.Len() != 0 {
			t.Fatalf("W3: behind %d: %d bytes in room for %d, %d and %d ranges", n, len(b.waits), cap(b.waits), b.acked.Len(), b.lost.Len())
		}
	}
	alike(t, b, m, "all")
}

// spoil writes over all of x, its spare room too.
func spoil(x []byte) {
	x = x[:cap(x)]
	for i := range x {
		x[i] = '!'
	}
}

// TestAlone asks that no buffer sees what another one is told, and that asking changes nothing.
func TestAlone(t *testing.T) {
	a, n := run(t, write("ab"), next(1, 9), finish())
	b, m := run(t, write("xyz"), next(9, 9), lost(1, 1))
	c, k := run(t)
	for range 3 {
		alike(t, a, n, "a")
		alike(t, b, m, "b")
		alike(t, c, k, "c")
	}
	tell(t, a, n, next(9, 9))
	tell(t, b, m, next(9, 9))
	tell(t, c, k, write("q"))
	tell(t, a, n, acked(0, 2).too())
	tell(t, b, m, acked(0, 1))
	for range 3 {
		alike(t, a, n, "a")
		alike(t, b, m, "b")
		alike(t, c, k, "c")
	}
}
