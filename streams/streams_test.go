package streams

import (
	"fmt"
	"math"
	"math/rand"
	"slices"
	"testing"

	"narthex/api"
	"narthex/frame"
	"narthex/receiver"
	"narthex/sender"
)

// far is more than any number that is asked here.
const far = math.MaxUint64

// step is one thing that the streams are told, by the name of the call.
type step struct {
	call string
	p    api.Params
	id   uint64
	text string
	n    int // most or room
	code uint64
	f    api.Frame
}

func allow(p api.Params) step           { return step{call: "Allow", p: p} }
func open() step                        { return step{call: "Open"} }
func write(id uint64, text string) step { return step{call: "Write", id: id, text: text} }
func finish(id uint64) step             { return step{call: "Finish", id: id} }
func read(id uint64, most int) step     { return step{call: "Read", id: id, n: most} }
func reset(id, code uint64) step        { return step{call: "Reset", id: id, code: code} }
func stop(id, code uint64) step         { return step{call: "Stop", id: id, code: code} }
func on(f api.Frame) step               { return step{call: "On", f: f} }
func next(room int) step                { return step{call: "Next", n: room} }
func acked(f api.Frame) step            { return step{call: "Acked", f: f} }
func lost(f api.Frame) step             { return step{call: "Lost", f: f} }
func behind(l []step, s ...step) []step { return append(l[:len(l):len(l)], s...) }

// params are what one end allows: bytes of all streams, bytes of each one, streams.
func params(data, each, streams uint64) api.Params {
	return api.Params{MaxData: data, MaxStreamData: each, MaxStreams: streams}
}

// part is a Stream frame.
func part(id, off uint64, data string) api.Frame {
	return api.Frame{Kind: api.Stream, Stream: id, Offset: off, Data: []byte(data)}
}

// last is one behind which the stream ends.
func last(id, off uint64, data string) api.Frame {
	f := part(id, off, data)
	f.Fin = true
	return f
}

// given is a Reset frame.
func given(id, code, final uint64) api.Frame {
	return api.Frame{Kind: api.Reset, Stream: id, Code: code, Final: final}
}

// stops is a Stop frame.
func stops(id, code uint64) api.Frame {
	return api.Frame{Kind: api.Stop, Stream: id, Code: code}
}

// more is a MaxStreamData frame.
func more(id, limit uint64) api.Frame {
	return api.Frame{Kind: api.MaxStreamData, Stream: id, Limit: limit}
}

// most is a MaxData frame.
func most(limit uint64) api.Frame {
	return api.Frame{Kind: api.MaxData, Limit: limit}
}

// told is what Next tells.
type told struct {
	f  api.Frame
	ok bool
}

// yes is what Next tells of f.
func yes(f api.Frame) told { return told{f, true} }

// same is whether a and b tell the same, and a has no other field set than what its Kind asks.
func same(a, b told) bool {
	return a.ok == b.ok && frame.Same(a.f, b.f) && bare(a.f)
}

// bare is whether f has nothing in the fields that its Kind does not ask, and nothing at all where it has none.
func bare(f api.Frame) bool {
	g := frame.Copy(f)
	return f.Stream == g.Stream && f.Offset == g.Offset && f.Limit == g.Limit && f.Code == g.Code && f.Final == g.Final &&
		f.Seq == 0 && f.Delay == 0 && len(f.Data) == len(g.Data) && f.Fin == g.Fin && len(f.Ranges) == 0 && f.CID == api.CID{}
}

// got is what Read tells.
type got struct {
	data string
	end  bool
	code uint64
	why  api.Errno
}

// take is what s tells by Read.
func take(s *Set, id uint64, most int) got {
	b, end, code, why := s.Read(id, most)
	return got{string(b), end, code, why}
}

// half is what the model has of one stream: its two halves, and each byte that is acknowledged, or came.
type half struct {
	send        *sender.Sender
	recv        *receiver.Receiver
	heard       []func(*receiver.Receiver) // all that recv was told, so that another one can be told the same
	acked, came map[uint64]bool
}

// tell tells recv what do tells.
func (h *half) tell(do func(*receiver.Receiver)) {
	do(h.recv)
	h.heard = append(h.heard, do)
}

// model is the streams of an end by the chapter's words.
type model struct {
	server                      bool
	mine, theirs                api.Params
	opened, limit, allowed, ran uint64
	again                       bool
	all                         map[uint64]*half
}

// fresh is a model of nothing.
func fresh(server bool, mine api.Params) *model {
	m := &model{server: server, mine: mine, limit: mine.MaxData, ran: far, all: map[uint64]*half{}}
	m.mine.MaxStreams = min(mine.MaxStreams, 8)
	m.mine.MaxStreamData = min(mine.MaxStreamData, 2048)
	return m
}

// own is what the ids of this end's streams are, modulo 4.
func (m *model) own() uint64 {
	if m.server {
		return 1
	}
	return 0
}

// half is a stream of which nothing was told.
func (m *model) half(id uint64) *half {
	h := &half{send: sender.New(id), recv: receiver.New(id, m.mine.MaxStreamData), acked: map[uint64]bool{}, came: map[uint64]bool{}}
	h.send.Limit(m.theirs.MaxStreamData)
	return h
}

// ids are P18.1's IDs.
func (m *model) ids() []uint64 {
	var l []uint64
	for id := range m.all {
		l = append(l, id)
	}
	slices.Sort(l)
	return l
}

// allow is P18.1's Allow.
func (m *model) allow(p api.Params) {
	m.allowed = max(m.allowed, p.MaxData)
	m.theirs.MaxStreamData = max(m.theirs.MaxStreamData, p.MaxStreamData)
	m.theirs.MaxStreams = min(max(m.theirs.MaxStreams, p.MaxStreams), 8)
	for _, h := range m.all {
		h.send.Limit(m.theirs.MaxStreamData)
	}
}

// open is P18.1's Open.
func (m *model) open() (uint64, api.Errno) {
	if m.opened >= m.theirs.MaxStreams {
		return 0, api.ErrLimit
	}
	id := 4*m.opened + m.own()
	m.opened++
	m.all[id] = m.half(id)
	return id, api.OK
}

// sums are P18.2's Got and Sent, and all that was taken.
func (m *model) sums() (got, sent, taken uint64) {
	for _, h := range m.all {
		got += h.recv.Highest()
		sent += h.send.Sent()
		taken += h.recv.Taken()
	}
	return got, sent, taken
}

// held is P18.3's Held.
func (m *model) held() int {
	n := 0
	for _, h := range m.all {
		n += int(h.send.Length()) - len(h.acked)
		for off := range h.came {
			if off >= h.recv.Taken() {
				n++
			}
		}
	}
	return n
}

// on is P18.2's On.
func (m *model) on(f api.Frame) int {
	switch f.Kind {
	case 16:
		m.allowed = max(m.allowed, f.Limit)
		return 0
	case 18, 20:
		return 0
	case 4, 5, 8, 17:
	default:
		return 10
	}
	h, there := m.all[f.Stream]
	if f.Stream%4 > 1 || f.Stream%4 == m.own() && !there {
		return 5
	}
	if f.Stream/4 >= m.mine.MaxStreams && f.Stream%4 != m.own() {
		return 4
	}
	if !there {
		h = m.half(f.Stream)
	}
	if code := m.onHalf(h, f); code != 0 {
		return code
	}
	for id := f.Stream % 4; id < f.Stream; id += 4 {
		if m.all[id] == nil {
			m.all[id] = m.half(id)
		}
	}
	m.all[f.Stream] = h
	return 0
}

// onHalf is On of a frame of h.
func (m *model) onHalf(h *half, f api.Frame) int {
	switch f.Kind {
	case 5:
		h.send.Reset(f.Code)
		return 0
	case 17:
		h.send.Limit(f.Limit)
		return 0
	}
	// Another one that was told the same is asked first, so that nothing is changed.
	probe := receiver.New(f.Stream, m.mine.MaxStreamData)
	for _, do := range h.heard {
		do(probe)
	}
	was := probe.Highest()
	why := probe.On(f)
	got, _, _ := m.sums()
	switch {
	case why == api.ErrOver:
		return 3
	case why == api.ErrFinal:
		return 6
	case got-was+probe.Highest() > m.limit:
		return 3
	}
	h.tell(func(r *receiver.Receiver) { r.On(f) })
	if f.Kind == 8 && why == api.OK {
		for i := range f.Data {
			h.came[f.Offset+uint64(i)] = true
		}
	}
	return 0
}

// next is P18.3's Next.
func (m *model) next(room int) told {
	got, sent, taken := m.sums()
	f := api.Frame{Kind: 16, Limit: taken + m.mine.MaxData}
	least := m.mine.MaxData / 2
	if least == 0 {
		least = 1
	}
	if (m.again || f.Limit-m.limit >= least) && frame.Size(f) <= room {
		m.again, m.limit = false, f.Limit
		return yes(f)
	}
	for _, id := range m.ids() {
		var f api.Frame
		var ok bool
		m.all[id].tell(func(r *receiver.Receiver) { f, ok = r.Next(room) })
		if ok {
			return yes(f)
		}
	}
	if got > m.limit || sent > m.allowed {
		panic("the model is beyond its limits")
	}
	for _, id := range m.ring() {
		if f, ok := m.all[id].send.Next(room, m.allowed-sent); ok {
			m.ran = id
			return yes(f)
		}
	}
	return told{}
}

// ring are the ids, beginning behind the one that told last.
func (m *model) ring() []uint64 {
	var ahead, rest []uint64
	for _, id := range m.ids() {
		if m.ran != far && id > m.ran {
			ahead = append(ahead, id)
		} else {
			rest = append(rest, id)
		}
	}
	return append(ahead, rest...)
}

// acked is P18.3's Acked.
func (m *model) acked(f api.Frame) {
	h := m.all[f.Stream]
	if h == nil {
		return
	}
	h.send.Acked(f)
	for i := range f.Data {
		if off := f.Offset + uint64(i); f.Kind == 8 && off >= f.Offset && off < h.send.Sent() {
			h.acked[off] = true
		}
	}
}

// lose is P18.3's Lost.
func (m *model) lose(f api.Frame) {
	if f.Kind == 16 {
		m.again = m.again || f.Limit == m.limit
		return
	}
	if h := m.all[f.Stream]; h != nil {
		h.send.Lost(f)
		h.tell(func(r *receiver.Receiver) { r.Lost(f) })
	}
}

// read is P18.1's Read.
func (m *model) read(id uint64, most int) got {
	h := m.all[id]
	if h == nil {
		return got{why: api.ErrNone}
	}
	var x got
	h.tell(func(r *receiver.Receiver) {
		b, end, code, why := r.Read(most)
		x = got{string(b), end, code, why}
	})
	return x
}

// asks is P18.1's Write, Finish, Reset and Stop.
func (m *model) asks(x step) (int, api.Errno) {
	h := m.all[x.id]
	if h == nil {
		return 0, api.ErrNone
	}
	switch x.call {
	case "Write":
		return h.send.Write([]byte(x.text))
	case "Finish":
		return 0, h.send.Finish()
	case "Reset":
		return 0, h.send.Reset(x.code)
	}
	var why api.Errno
	h.tell(func(r *receiver.Receiver) { why = r.Stop(x.code) })
	return 0, why
}

// ask is what s tells by Next, which must have room in what it was asked for, and be a frame that may be.
func ask(t *testing.T, s *Set, room int) told {
	t.Helper()
	f, ok := s.Next(room)
	if ok && (!frame.Right(f) || frame.Size(f) > room) {
		t.Fatalf("P18.3: Next(%d): %d bytes: %+v", room, frame.Size(f), f)
	}
	return told{f, ok}
}

// asked is what s answers to x, which is a Write, Finish, Reset or Stop.
func asked(s *Set, x step) (int, api.Errno) {
	switch x.call {
	case "Write":
		return s.Write(x.id, []byte(x.text))
	case "Finish":
		return 0, s.Finish(x.id)
	case "Reset":
		return 0, s.Reset(x.id, x.code)
	}
	return 0, s.Stop(x.id, x.code)
}

// tell tells both of what there is to tell and holds their answers against each other.
func tell(t *testing.T, s *Set, m *model, x step) {
	t.Helper()
	switch x.call {
	case "Allow":
		s.Allow(x.p)
		m.allow(x.p)
	case "Open":
		id, why := s.Open()
		if want, refusal := m.open(); id != want || why != refusal {
			t.Fatalf("P18.1: Open: %d, %v, want %d, %v", id, why, want, refusal)
		}
	case "Read":
		if is, want := take(s, x.id, x.n), m.read(x.id, x.n); is != want {
			t.Fatalf("P18.1: Read(%d, %d): %+v, want %+v", x.id, x.n, is, want)
		}
	case "On":
		if is, want := s.On(x.f), m.on(x.f); is != want {
			t.Fatalf("P18.2: On(%+v): %d, want %d", x.f, is, want)
		}
	case "Next":
		if is, want := ask(t, s, x.n), m.next(x.n); !same(is, want) {
			t.Fatalf("P18.3: Next(%d): %+v, want %+v", x.n, is, want)
		}
	case "Acked":
		s.Acked(x.f)
		m.acked(x.f)
	case "Lost":
		s.Lost(x.f)
		m.lose(x.f)
	default:
		n, why := asked(s, x)
		if want, refusal := m.asks(x); n != want || why != refusal {
			t.Fatalf("P18.1: %+v: %d, %v, want %d, %v", x, n, why, want, refusal)
		}
	}
}

// alike holds every answer of s that changes nothing against the model's, and against the bounds.
func alike(t *testing.T, s *Set, m *model, behind any) {
	t.Helper()
	if ids := s.IDs(); !slices.Equal(ids, m.ids()) || len(ids) > 16 {
		t.Fatalf("P18.1: behind %+v: IDs %v, want %v", behind, ids, m.ids())
	}
	came, sent, _ := m.sums()
	if s.Got() != came || s.Limit() != m.limit || s.Sent() != sent || s.Allowed() != m.allowed {
		t.Fatalf("P18.2: behind %+v: Got %d, Limit %d, Sent %d, Allowed %d, want %d, %d, %d, %d", behind, s.Got(), s.Limit(), s.Sent(), s.Allowed(), came, m.limit, sent, m.allowed)
	}
	if s.Held() != m.held() {
		t.Fatalf("P18.3: behind %+v: Held %d, want %d", behind, s.Held(), m.held())
	}
	if s.Got() > s.Limit() || s.Sent() > s.Allowed() || s.Held() > 2*2048*len(m.all) {
		t.Fatalf("W3: behind %+v: Got %d, Limit %d, Sent %d, Allowed %d, Held %d", behind, s.Got(), s.Limit(), s.Sent(), s.Allowed(), s.Held())
	}
}

// run tells a new end and a new model of l, and holds them against each other behind each step.
func run(t *testing.T, server bool, mine api.Params, l ...step) (*Set, *model) {
	t.Helper()
	s, m := New(server, mine), fresh(server, mine)
	alike(t, s, m, nil)
	for i, x := range l {
		tell(t, s, m, x)
		alike(t, s, m, l[:i+1])
	}
	return s, m
}

// drain asks both for all that is left to be sent and to be read.
func drain(t *testing.T, s *Set, m *model, behind any) {
	t.Helper()
	for n := 0; ; n++ {
		is, want := ask(t, s, 99), m.next(99)
		if !same(is, want) {
			t.Fatalf("P18.3: behind %+v: Next: %+v, want %+v", behind, is, want)
		}
		more := is.ok
		for _, id := range m.ids() {
			took, should := take(s, id, 7), m.read(id, 7)
			if took != should {
				t.Fatalf("P18.1: behind %+v: Read(%d): %+v, want %+v", behind, id, took, should)
			}
			more = more || took.why == api.OK || took.why == api.ErrReset
		}
		if !more {
			alike(t, s, m, behind)
			return
		}
		if n > 9000 {
			t.Fatalf("P18: behind %+v: no end", behind)
		}
	}
}

// long is n bytes, none like its neighbours, and other ones for another from.
func long(n, from int) string {
	b := make([]byte, n)
	for i := range b {
		b[i] = byte((from + i) % 251)
	}
	return string(b)
}

// both does what there is to do of a client and of a server, with the lowest ids of its own and of the other end's streams.
func both(do func(server bool, own, other uint64)) {
	do(false, 0, 1)
	do(true, 1, 0)
}

func TestRun(t *testing.T) {
	s := New(false, api.Params{})
	s.Allow(api.Params{MaxStreams: 1})
	id, why := s.Open()
	none, limit := s.Open()
	if id != 0 || why != api.OK || none != 0 || limit != api.ErrLimit {
		t.Errorf("P18.1: the run: %d, %v, %d, %v", id, why, none, limit)
	}
	if code := s.On(part(4, 0, "a")); code != api.StreamState {
		t.Errorf("P18.2: example 1: %d", code)
	}
	if n, why := s.Write(4, []byte("a")); n != 0 || why != api.ErrNone {
		t.Errorf("P18.1: example 2: %d, %v", n, why)
	}
}

// TestFirst asks what a new end answers.
func TestFirst(t *testing.T) {
	both(func(server bool, own, other uint64) {
		for _, data := range []uint64{0, 1, 100, 1 << 40, api.MaxVar} {
			s := New(server, params(data, 5, 5))
			f, ok := s.Next(512)
			if len(s.IDs()) != 0 || s.Held() != 0 || s.Limit() != data || s.Got() != 0 || s.Sent() != 0 || s.Allowed() != 0 || ok || !same(told{f, ok}, told{}) {
				t.Errorf("P18: at first: %v, %d, %d, %d, %d, %d, %+v", s.IDs(), s.Held(), s.Limit(), s.Got(), s.Sent(), s.Allowed(), f)
			}
		}
	})
}

// TestOpen asks how many streams may be opened, and what their ids are.
func TestOpen(t *testing.T) {
	both(func(server bool, own, other uint64) {
		for _, most := range []uint64{0, 1, 2, 3, 7, 8, 9, 255, 256, 1 << 20, 1 << 32, 1 << 62, far} {
			s := New(server, params(9, 9, 0))
			if id, why := s.Open(); id != 0 || why != api.ErrLimit {
				t.Errorf("P18.1: ahead of Allow: %d, %v", id, why)
			}
			s.Allow(params(0, 0, most))
			var ids []uint64
			for n := range min(most, 8) {
				id, why := s.Open()
				if id != 4*n+own || why != api.OK {
					t.Errorf("P18.1: Open %d of %d: %d, %v", n, most, id, why)
				}
				ids = append(ids, id)
				if !slices.Equal(s.IDs(), ids) {
					t.Errorf("P18.1: IDs %v, want %v", s.IDs(), ids)
				}
			}
			for range 2 {
				if id, why := s.Open(); id != 0 || why != api.ErrLimit || !slices.Equal(s.IDs(), ids) {
					t.Errorf("P18.1: one more than %d: %d, %v, %v", most, id, why, s.IDs())
				}
			}
		}
	})
}

// TestAllow asks that of each thing the greater one holds, whichever comes first.
func TestAllow(t *testing.T) {
	both(func(server bool, own, other uint64) {
		for i, c := range []struct {
			l                   []api.Params
			data, each, streams uint64
		}{
			{nil, 0, 0, 0},
			{[]api.Params{params(9, 5, 2)}, 9, 5, 2},
			{[]api.Params{params(9, 5, 2), params(8, 4, 1)}, 9, 5, 2},
			{[]api.Params{params(8, 4, 1), params(9, 5, 2)}, 9, 5, 2},
			{[]api.Params{params(9, 4, 1), params(8, 5, 1)}, 9, 5, 1},
			{[]api.Params{params(8, 5, 1), params(9, 4, 2)}, 9, 5, 2},
			{[]api.Params{params(9, 5, 2), {}}, 9, 5, 2},
			{[]api.Params{{}, params(9, 5, 2)}, 9, 5, 2},
			{[]api.Params{params(9, 5, 99), params(9, 5, 7)}, 9, 5, 8},
		} {
			s := New(server, params(99, 99, 1))
			s.On(part(other, 0, ""))
			s.Write(other, []byte("abcdefgh"))
			for _, p := range c.l {
				s.Allow(p)
			}
			if s.Allowed() != c.data {
				t.Errorf("P18.1: row %d: Allowed %d", i, s.Allowed())
			}
			n := uint64(0)
			for range 12 {
				if _, why := s.Open(); why == api.OK {
					n++
				}
			}
			if n != c.streams {
				t.Errorf("P18.1: row %d: %d streams", i, n)
			}
			// A stream that was there ahead, and one that was opened behind it, both have the limit.
			want := yes(part(other, 0, "abcdefgh"[:c.each]))
			if c.each == 0 {
				want = told{}
			}
			if x := ask(t, s, 99); !same(x, want) {
				t.Errorf("P18.1: row %d: of one that was there: %+v", i, x)
			}
			if n == 0 {
				continue
			}
			s.On(most(50))
			s.Write(own, []byte("abcdefgh"))
			if x := ask(t, s, 99); !same(x, yes(part(own, 0, "abcdefgh"[:c.each]))) {
				t.Errorf("P18.1: row %d: of one that was opened: %+v", i, x)
			}
		}
	})
}

// TestBetween asks that what is allowed between two streams holds for both, and that one's own greater limit stands.
func TestBetween(t *testing.T) {
	both(func(server bool, own, other uint64) {
		s, m := run(t, server, params(99, 99, 1), allow(params(99, 2, 2)), open(), on(more(own, 5)), allow(params(0, 4, 0)), open(), write(own, "abcdefgh"), write(own+4, "ijklmnop"))
		for _, want := range []api.Frame{part(own, 0, "abcde"), part(own+4, 0, "ijkl")} {
			if x := ask(t, s, 99); !same(x, yes(want)) {
				t.Errorf("P18.1: %+v, want %+v", x, want)
			}
			m.next(99)
		}
		drain(t, s, m, "Allow")
		s.Allow(params(0, 7, 0))
		for _, want := range []api.Frame{part(own, 5, "fg"), part(own+4, 4, "mno")} {
			if x := ask(t, s, 99); !same(x, yes(want)) {
				t.Errorf("P18.1: %+v, want %+v", x, want)
			}
		}
	})
}

// TestThere asks which streams of the other end are there behind a frame of each Kind at each place.
func TestThere(t *testing.T) {
	both(func(server bool, own, other uint64) {
		for _, most := range []uint64{0, 1, 2, 7, 8, 9, 1 << 20, far} {
			for place := range uint64(11) {
				id := 4*place + other
				for _, f := range []api.Frame{part(id, 0, ""), last(id, 2, "abc"), given(id, 3, 4), stops(id, 3), more(id, 4)} {
					s, m := run(t, server, params(9, 9, most), on(f))
					var want []uint64
					code := api.StreamLimit
					if place < min(most, 8) {
						code = api.NoError
						for n := range place + 1 {
							want = append(want, 4*n+other)
						}
					}
					if !slices.Equal(s.IDs(), want) {
						t.Errorf("P18.1: %d streams, %+v: IDs %v", most, f, s.IDs())
					}
					if again := s.On(f); again != code {
						t.Errorf("P18.2: %d streams, %+v: %d, want %d", most, f, again, code)
					}
					m.on(f)
					drain(t, s, m, f)
				}
			}
		}
	})
}

// TestMixed asks for the ids of both ends' streams, rising.
func TestMixed(t *testing.T) {
	for _, c := range []struct {
		server bool
		own    int
		other  int
		want   []uint64
	}{
		{false, 0, 0, nil}, {false, 1, 3, []uint64{0, 1, 5, 9}}, {false, 3, 1, []uint64{0, 1, 4, 8}}, {false, 2, 2, []uint64{0, 1, 4, 5}}, {false, 0, 2, []uint64{1, 5}}, {false, 2, 0, []uint64{0, 4}},
		{true, 1, 3, []uint64{0, 1, 4, 8}}, {true, 3, 1, []uint64{0, 1, 5, 9}}, {true, 2, 2, []uint64{0, 1, 4, 5}}, {true, 0, 2, []uint64{0, 4}}, {true, 2, 0, []uint64{1, 5}},
		{true, 8, 8, []uint64{0, 1, 4, 5, 8, 9, 12, 13, 16, 17, 20, 21, 24, 25, 28, 29}},
	} {
		s := New(c.server, params(9, 9, 8))
		s.Allow(params(9, 9, 8))
		other := uint64(1)
		if c.server {
			other = 0
		}
		for range c.own {
			s.Open()
		}
		for n := range c.other {
			s.On(part(uint64(4*n)+other, 0, ""))
		}
		if !slices.Equal(s.IDs(), c.want) {
			t.Errorf("P18.1: %+v: IDs %v", c, s.IDs())
		}
	}
}

// TestNone asks all calls of streams that are not there, and that none of them makes one.
func TestNone(t *testing.T) {
	both(func(server bool, own, other uint64) {
		for _, l := range [][]step{nil, {allow(params(9, 9, 2)), open(), on(part(other+4, 0, "abc")), next(99)}} {
			s, m := run(t, server, params(9, 9, 3), l...)
			for _, id := range []uint64{own, own + 4, other, other + 4, other + 8, other + 12, 2, 3, 6, 7, 8, 9, own + 32, other + 32, 1 << 32, 1<<32 + 1, 1<<62 + own, 1 << 63, 1<<63 + 1, far - 3, far - 2, far - 1, far} {
				if m.all[id] != nil {
					continue
				}
				n, why := s.Write(id, []byte("a"))
				none, blank := s.Write(id, nil)
				if n != 0 || why != api.ErrNone || none != 0 || blank != api.ErrNone {
					t.Errorf("P18.1: Write(%d): %d, %v, %d, %v", id, n, why, none, blank)
				}
				if x := take(s, id, 5); x != (got{why: api.ErrNone}) {
					t.Errorf("P18.1: Read(%d): %+v", id, x)
				}
				if a, b, c, d, e := s.Finish(id), s.Reset(id, 1), s.Stop(id, 1), s.Reset(id, far), s.Stop(id, far); a != api.ErrNone || b != api.ErrNone || c != api.ErrNone || d != api.ErrNone || e != api.ErrNone {
					t.Errorf("P18.1: of %d: %v, %v, %v, %v, %v", id, a, b, c, d, e)
				}
				for _, f := range []api.Frame{part(id, 0, "ab"), last(id, 0, ""), given(id, 1, 0), stops(id, 1), more(id, 9)} {
					s.Acked(f)
					s.Lost(f)
				}
				alike(t, s, m, id)
			}
			drain(t, s, m, l)
		}
	})
}

// TestHalves asks that the calls of a stream are its halves', refusals and all.
func TestHalves(t *testing.T) {
	both(func(server bool, own, other uint64) {
		for _, id := range []uint64{own, other} {
			s := New(server, params(99, 9, 1))
			s.Allow(params(99, 9, 1))
			s.Open()
			s.On(part(other, 0, ""))
			if x := take(s, id, 5); x != (got{why: api.ErrBlock}) {
				t.Errorf("P18.1: Read of nothing: %+v", x)
			}
			s.On(part(id, 0, "abcdef"))
			if x := take(s, id, 2); x != (got{data: "ab"}) {
				t.Errorf("P18.1: Read: %+v", x)
			}
			if a, b, c := s.Stop(id, api.MaxVar+1), s.Stop(id, api.MaxVar), s.Stop(id, 3); a != api.ErrArg || b != api.OK || c != api.ErrState {
				t.Errorf("P18.1: Stop: %v, %v, %v", a, b, c)
			}
			if x := ask(t, s, 99); !same(x, yes(stops(id, api.MaxVar))) {
				t.Errorf("P18.1: the Stop: %+v", x)
			}
			s.On(last(id, 6, "g"))
			if x := take(s, id, 99); x != (got{data: "cdefg", end: true}) || s.Stop(id, 3) != api.ErrState || take(s, id, 99) != (got{why: api.ErrState}) {
				t.Errorf("P18.1: Read of the rest: %+v", x)
			}
			if n, why := s.Write(id, []byte(long(2049, 0))); n != 2048 || why != api.OK {
				t.Errorf("P18.1: Write: %d, %v", n, why)
			}
			if n, why := s.Write(id, []byte("a")); n != 0 || why != api.ErrBlock {
				t.Errorf("P18.1: Write of what has no room: %d, %v", n, why)
			}
			if n, why := s.Write(id, nil); n != 0 || why != api.OK {
				t.Errorf("P18.1: Write of nothing: %d, %v", n, why)
			}
			if a, b := s.Finish(id), s.Finish(id); a != api.OK || b != api.ErrState {
				t.Errorf("P18.1: Finish: %v, %v", a, b)
			}
			if n, why := s.Write(id, nil); n != 0 || why != api.ErrState {
				t.Errorf("P18.1: Write behind Finish: %d, %v", n, why)
			}
			if a, b, c := s.Reset(id, api.MaxVar+1), s.Reset(id, 7), s.Reset(id, 8); a != api.ErrArg || b != api.OK || c != api.ErrState {
				t.Errorf("P18.1: Reset: %v, %v, %v", a, b, c)
			}
			if x := ask(t, s, 99); !same(x, yes(given(id, 7, 0))) {
				t.Errorf("P18.1: the Reset: %+v", x)
			}
		}
	})
}

// TestGivenUp asks that the other end's Reset comes to Read, once.
func TestGivenUp(t *testing.T) {
	both(func(server bool, own, other uint64) {
		s := New(server, params(99, 9, 1))
		s.On(part(other, 0, "abc"))
		if s.On(given(other, 77, 5)) != api.NoError || s.Stop(other, 1) != api.ErrState {
			t.Error("P18.2: a Reset")
		}
		a, b := take(s, other, 9), take(s, other, 9)
		if a != (got{code: 77, why: api.ErrReset}) || b != (got{why: api.ErrState}) {
			t.Errorf("P18.1: Read behind a Reset: %+v, %+v", a, b)
		}
		// What goes the other way goes on.
		if n, why := s.Write(other, []byte("x")); n != 1 || why != api.OK {
			t.Errorf("P18.1: Write behind a Reset: %d, %v", n, why)
		}
	})
}

// TestCodes holds On's codes against rows that were worked out by hand: a client whose stream 0 is open and whose stream 4 is not; the server may have two streams of 6 bytes, and 10 bytes in all. (In the tests of both ends the ids are turned for a server.)
func TestCodes(t *testing.T) {
	both(func(server bool, own, other uint64) {
		ahead := []step{allow(params(10, 6, 1)), open()}
		sized := behind(ahead, on(last(other+4, 4, "")))
		whole := behind(ahead, on(last(other+4, 0, "abcd")))
		told := behind(whole, read(other+4, 9))
		gone := behind(ahead, on(given(other+4, 9, 4)))
		full := behind(whole, on(part(own, 0, "abcdef")))
		for i, c := range []struct {
			ahead []step
			f     api.Frame
			code  int
		}{
			// The stream is none that may be.
			{ahead, part(own, 0, "a"), api.NoError},
			{ahead, part(own+4, 0, "a"), api.StreamState},
			{ahead, part(own+4, 7, "a"), api.StreamState},
			{ahead, part(own+32, 0, "a"), api.StreamState},
			{ahead, last(own+4, 0, ""), api.StreamState},
			{ahead, given(own+4, 1, 0), api.StreamState},
			{ahead, given(own+4, 1, 99), api.StreamState},
			{ahead, stops(own+4, 1), api.StreamState},
			{ahead, more(own+4, 9), api.StreamState},
			{nil, part(own, 0, ""), api.StreamState},
			{nil, more(own, 0), api.StreamState},
			{ahead, part(2, 0, ""), api.StreamState},
			{ahead, part(3, 0, ""), api.StreamState},
			{ahead, given(6, 1, 0), api.StreamState},
			{ahead, stops(7, 1), api.StreamState},
			{ahead, more(1<<62+2, 1), api.StreamState},
			{ahead, part(far, 0, ""), api.StreamState},
			{ahead, part(other+8, 0, ""), api.StreamLimit},
			{ahead, part(other+8, 7, ""), api.StreamLimit},
			{ahead, given(other+8, 1, 0), api.StreamLimit},
			{ahead, given(other+12, 1, 99), api.StreamLimit},
			{ahead, stops(other+8, 1), api.StreamLimit},
			{ahead, more(other+8, 9), api.StreamLimit},
			{ahead, more(1<<61+other, 9), api.StreamLimit},
			{nil, part(other+4, 0, ""), api.NoError},
			// More than the stream may have.
			{ahead, part(other, 0, "abcdef"), api.NoError},
			{ahead, part(other, 0, "abcdefg"), api.FlowControl},
			{ahead, part(own, 6, ""), api.NoError},
			{ahead, part(own, 6, "g"), api.FlowControl},
			{ahead, part(other, 7, ""), api.FlowControl},
			{ahead, last(other+4, 7, ""), api.FlowControl},
			{ahead, given(other, 1, 6), api.NoError},
			{ahead, given(other, 1, 7), api.FlowControl},
			{ahead, given(own, 1, 7), api.FlowControl},
			{whole, part(other+4, 6, "g"), api.FlowControl},
			{gone, given(other+4, 1, 7), api.FlowControl},
			// More than all may have.
			{whole, part(other, 0, "abcdef"), api.NoError},
			{whole, part(own, 6, ""), api.NoError},
			{full, part(own, 0, "abcdef"), api.NoError},
			{full, last(own, 6, ""), api.NoError},
			{full, part(other, 0, ""), api.NoError},
			{full, last(other, 0, ""), api.NoError},
			{full, given(other, 5, 0), api.NoError},
			{full, given(own, 5, 6), api.NoError},
			{full, given(other+4, 5, 4), api.NoError},
			{full, part(other, 0, "a"), api.FlowControl},
			{full, part(other, 1, ""), api.FlowControl},
			{full, last(other, 1, ""), api.FlowControl},
			{full, given(other, 5, 1), api.FlowControl},
			{behind(ahead, on(part(own, 4, "ef")), on(part(other, 3, "")), on(part(other+4, 1, ""))), part(other, 4, ""), api.FlowControl},
			{behind(ahead, on(part(own, 4, "ef")), on(part(other, 3, ""))), given(other+4, 1, 1), api.NoError},
			{behind(ahead, on(part(own, 4, "ef")), on(part(other, 3, ""))), given(other+4, 1, 2), api.FlowControl},
			{behind(ahead, on(given(own, 1, 6)), on(part(other, 0, "abc"))), part(other, 3, "de"), api.FlowControl},
			{behind(ahead, on(given(own, 1, 6)), on(part(other, 0, "abc"))), part(other, 3, "d"), api.NoError},
			// What was read counts as well, till more is told.
			{behind(full, read(own, 6)), part(other, 0, "a"), api.FlowControl},
			{behind(full, read(own, 6), next(99)), part(other, 0, "abcdef"), api.NoError},
			{behind(full, read(own, 4), next(99)), part(other, 0, "abcdef"), api.FlowControl},
			// Another size.
			{sized, part(other+4, 5, ""), api.FinalSize},
			{sized, part(other+4, 3, "de"), api.FinalSize},
			{sized, last(other+4, 3, ""), api.FinalSize},
			{sized, last(other+4, 5, ""), api.FinalSize},
			{sized, given(other+4, 1, 3), api.FinalSize},
			{sized, given(other+4, 1, 5), api.FinalSize},
			{sized, given(other+4, 1, 4), api.NoError},
			{sized, part(other+4, 0, "abcd"), api.NoError},
			{whole, last(other+4, 0, "abc"), api.FinalSize},
			{whole, given(other+4, 1, 5), api.FinalSize},
			{told, part(other+4, 4, "e"), api.FinalSize},
			{told, given(other+4, 1, 3), api.FinalSize},
			{told, given(other+4, 1, 4), api.NoError},
			{gone, part(other+4, 4, "e"), api.FinalSize},
			{gone, last(other+4, 3, ""), api.FinalSize},
			{gone, given(other+4, 1, 3), api.FinalSize},
			{gone, part(other+4, 0, "abcd"), api.NoError},
			{behind(ahead, on(part(own, 2, "c"))), last(own, 2, ""), api.FinalSize},
			{behind(ahead, on(part(own, 2, "c"))), given(own, 1, 2), api.FinalSize},
			// The receiver's refusal goes ahead of what all may have.
			{full, part(other+4, 5, ""), api.FinalSize},
			{full, part(other+4, 4, "ef"), api.FinalSize},
			{full, last(other+4, 5, ""), api.FinalSize},
			{full, given(other+4, 1, 5), api.FinalSize},
			{behind(full, read(other+4, 9)), part(other+4, 4, "e"), api.FinalSize},
			{behind(full, on(given(own, 1, 6))), part(other+4, 4, "e"), api.FinalSize},
			{behind(gone, on(part(own, 0, "abcdef"))), given(other+4, 1, 5), api.FinalSize},
			{behind(gone, on(part(own, 0, "abcdef"))), part(other+4, 4, "e"), api.FinalSize},
			{behind(sized, on(part(own, 0, "abcdef"))), part(other+4, 4, "e"), api.FinalSize},
			{full, part(other+4, 6, "g"), api.FlowControl},
			// Those that are of no stream.
			{ahead, most(0), api.NoError},
			{ahead, most(99), api.NoError},
			{ahead, api.Frame{Kind: api.MaxStreamsOf, Limit: 8}, api.NoError},
			{ahead, api.Frame{Kind: api.Blocked, Limit: 8}, api.NoError},
			{ahead, api.Frame{Kind: api.Blocked, Limit: 8, Stream: own + 4}, api.NoError},
			{ahead, api.Frame{Kind: api.MaxData, Limit: 8, Stream: 3}, api.NoError},
		} {
			s, m := run(t, server, params(10, 6, 2), c.ahead...)
			was := fmt.Sprint(s.IDs(), s.Held(), s.Limit(), s.Got(), s.Sent(), s.Allowed())
			if code := s.On(c.f); code != c.code {
				t.Errorf("P18.2: row %d: On(%+v): %d, want %d", i, c.f, code, c.code)
			}
			if is := fmt.Sprint(s.IDs(), s.Held(), s.Limit(), s.Got(), s.Sent(), s.Allowed()); c.code != api.NoError && is != was {
				t.Errorf("R3: row %d: On(%+v): %s, was %s", i, c.f, is, was)
			}
			if c.code == api.NoError {
				m.on(c.f)
			}
			alike(t, s, m, i)
			drain(t, s, m, i)
		}
	})
}

// TestKinds asks On of every Kind: those that are no stream's matter are Violations, whatever else they say.
func TestKinds(t *testing.T) {
	both(func(server bool, own, other uint64) {
		for kind := -2; kind < 260; kind++ {
			want := api.Violation
			switch kind {
			case api.Stream, api.Reset, api.Stop, api.MaxStreamData, api.MaxData, api.MaxStreamsOf, api.Blocked:
				want = api.NoError
			}
			for _, id := range []uint64{own, other} {
				s, m := run(t, server, params(10, 6, 2), allow(params(10, 6, 1)), open(), write(own, "abc"))
				f := api.Frame{Kind: kind, Stream: id, Data: []byte("xy"), Final: 3, Limit: 4, Code: 5}
				if code := s.On(f); code != want {
					t.Errorf("P18.2: Kind %d: %d, want %d", kind, code, want)
				}
				if want == api.NoError {
					m.on(f)
				}
				alike(t, s, m, kind)
				drain(t, s, m, kind)
			}
		}
	})
}

// TestNothing asks that MaxStreamsOf and Blocked change nothing.
func TestNothing(t *testing.T) {
	both(func(server bool, own, other uint64) {
		s, m := run(t, server, params(10, 6, 2), allow(params(10, 6, 1)), open())
		for _, limit := range []uint64{0, 1, 2, 9, 1 << 20} {
			for _, kind := range []int{api.MaxStreamsOf, api.Blocked} {
				if code := s.On(api.Frame{Kind: kind, Limit: limit}); code != api.NoError {
					t.Errorf("P18.2: Kind %d: %d", kind, code)
				}
				if _, why := s.Open(); why != api.ErrLimit {
					t.Errorf("P18.2: Open behind Kind %d: %v", kind, why)
				}
				alike(t, s, m, limit)
			}
		}
		drain(t, s, m, "nothing")
	})
}

// TestLimits asks MaxData and MaxStreamData: the greater one holds.
func TestLimits(t *testing.T) {
	both(func(server bool, own, other uint64) {
		s, _ := run(t, server, params(10, 6, 2), on(most(3)))
		if s.Allowed() != 3 {
			t.Errorf("P18.2: Allowed %d ahead of Allow", s.Allowed())
		}
		s.Allow(params(5, 2, 1))
		for i, c := range []struct{ limit, want uint64 }{{4, 5}, {5, 5}, {6, 6}, {0, 6}, {9, 9}, {8, 9}, {1 << 40, 1 << 40}, {9, 1 << 40}} {
			if s.On(most(c.limit)); s.Allowed() != c.want {
				t.Errorf("P18.2: row %d: Allowed %d, want %d", i, s.Allowed(), c.want)
			}
		}
		s.Open()
		s.Write(own, []byte("abcdefgh"))
		for i, c := range []struct {
			limit uint64
			want  told
		}{{0, yes(part(own, 0, "ab"))}, {2, told{}}, {1, told{}}, {3, yes(part(own, 2, "c"))}, {2, told{}}, {6, yes(part(own, 3, "def"))}, {1 << 40, yes(part(own, 6, "gh"))}} {
			if code := s.On(more(own, c.limit)); code != api.NoError {
				t.Errorf("P18.2: row %d: %d", i, code)
			}
			if x := ask(t, s, 99); !same(x, c.want) {
				t.Errorf("P18.2: row %d: %+v, want %+v", i, x, c.want)
			}
		}
	})
}

// TestStopped asks what a Stop of the other end does in every state of the sender.
func TestStopped(t *testing.T) {
	both(func(server bool, own, other uint64) {
		some := []step{allow(params(10, 6, 1)), open(), write(own, "abc")}
		whole := behind(some, finish(own), next(99))
		for i, c := range []struct {
			ahead []step
			code  uint64
			want  told
		}{
			{some[:2], 5, yes(given(own, 5, 0))},
			{some, 5, yes(given(own, 5, 0))},
			{behind(some, next(22)), 0, yes(given(own, 0, 2))},
			{behind(some, next(99)), api.MaxVar, yes(given(own, api.MaxVar, 3))},
			{whole, 5, yes(given(own, 5, 3))},
			{behind(whole, acked(last(own, 0, "abc"))), 5, told{}},
			{behind(some, reset(own, 6)), 5, yes(given(own, 6, 0))},
			{behind(some, reset(own, 6), next(99)), 5, told{}},
			{behind(some, reset(own, 6), next(99), acked(given(own, 6, 0))), 5, told{}},
			{behind(some, on(stops(own, 6))), 5, yes(given(own, 6, 0))},
			// One that no Reset can have.
			{some, api.MaxVar + 1, yes(part(own, 0, "abc"))},
		} {
			s, m := run(t, server, params(10, 6, 2), c.ahead...)
			if code := s.On(stops(own, c.code)); code != api.NoError {
				t.Errorf("P18.2: row %d: %d", i, code)
			}
			m.on(stops(own, c.code))
			if x := ask(t, s, 99); !same(x, c.want) {
				t.Errorf("P18.2: row %d: %+v, want %+v", i, x, c.want)
			}
			m.next(99)
			drain(t, s, m, i)
		}
	})
}

// TestNext holds what Next tells against rows that were worked out by hand: a client that allows 20 bytes in all, 8 of a stream.
func TestNext(t *testing.T) {
	ahead := []step{allow(params(30, 6, 3)), open(), open(), on(part(5, 0, ""))}
	wrote := behind(ahead, write(0, "abcdefgh"), write(4, "ijkl"), write(1, "mn"))
	came := behind(ahead, on(part(1, 0, "12345678")), on(part(5, 0, "12345678")))
	for i, c := range []struct {
		ahead []step
		rooms []int
		want  []told
	}{
		{nil, []int{99}, []told{{}}},
		{ahead, []int{99}, []told{{}}},
		// One stream behind the other.
		{wrote, []int{99, 99, 99, 99}, []told{yes(part(0, 0, "abcdef")), yes(part(1, 0, "mn")), yes(part(4, 0, "ijkl")), {}}},
		{wrote, []int{21, 21, 21, 99, 99, 99, 99}, []told{yes(part(0, 0, "a")), yes(part(1, 0, "m")), yes(part(4, 0, "i")), yes(part(0, 1, "bcdef")), yes(part(1, 1, "n")), yes(part(4, 1, "jkl")), {}}},
		{wrote, []int{20, 19, 0, -1, math.MinInt, 21}, []told{{}, {}, {}, {}, {}, yes(part(0, 0, "a"))}},
		{behind(wrote, next(99), write(5, "o")), []int{99, 99, 99, 99}, []told{yes(part(1, 0, "mn")), yes(part(4, 0, "ijkl")), yes(part(5, 0, "o")), {}}},
		{behind(wrote, next(99), next(99), next(99), lost(part(0, 0, "ab")), lost(part(4, 1, "j")), lost(part(1, 1, "n"))), []int{99, 99, 99, 99}, []told{yes(part(0, 0, "ab")), yes(part(1, 1, "n")), yes(part(4, 1, "j")), {}}},
		{behind(wrote, next(99), next(99), lost(part(0, 0, "ab")), lost(part(1, 1, "n"))), []int{99, 99, 99, 99}, []told{yes(part(4, 0, "ijkl")), yes(part(0, 0, "ab")), yes(part(1, 1, "n")), {}}},
		{behind(wrote, next(99), lost(part(0, 0, "abcdef"))), []int{99, 99, 99, 99}, []told{yes(part(1, 0, "mn")), yes(part(4, 0, "ijkl")), yes(part(0, 0, "abcdef")), {}}},
		// The same one again, if no other one has something; one that lacks room lets the others by.
		{behind(ahead, write(4, "abc")), []int{21, 21, 99, 99}, []told{yes(part(4, 0, "a")), yes(part(4, 1, "b")), yes(part(4, 2, "c")), {}}},
		{behind(wrote, reset(1, 7)), []int{4, 3, 99, 99}, []told{yes(given(1, 7, 0)), {}, yes(part(4, 0, "ijkl")), yes(part(0, 0, "abcdef"))}},
		{behind(wrote, next(99), reset(0, 7)), []int{19, 99, 99, 99}, []told{yes(given(0, 7, 6)), yes(part(1, 0, "mn")), yes(part(4, 0, "ijkl")), {}}},
		// A stream that is opened, or comes, between takes its place in the ring.
		{behind(ahead, write(5, "a"), next(99), write(5, "b"), open(), write(8, "c"), write(0, "d")), []int{99, 99, 99, 99}, []told{yes(part(8, 0, "c")), yes(part(0, 0, "d")), yes(part(5, 1, "b")), {}}},
		{behind(ahead, write(4, "a"), next(99), write(4, "b"), write(0, "c"), on(part(9, 0, "")), write(9, "d")), []int{99, 99, 99, 99}, []told{yes(part(9, 0, "d")), yes(part(0, 0, "c")), yes(part(4, 1, "b")), {}}},
		// What one's own limit holds back does not hold the others back.
		{behind(wrote, next(99), on(more(0, 8))), []int{99, 99, 99, 99}, []told{yes(part(1, 0, "mn")), yes(part(4, 0, "ijkl")), yes(part(0, 6, "gh")), {}}},
		// The receivers' frames, of the lowest id first, each time; they do not move the ring.
		{behind(ahead, stop(5, 3), stop(0, 1), stop(1, 2)), []int{99, 99, 99, 99}, []told{yes(stops(0, 1)), yes(stops(1, 2)), yes(stops(5, 3)), {}}},
		{behind(wrote, next(99), stop(5, 3)), []int{99, 99, 99, 99}, []told{yes(stops(5, 3)), yes(part(1, 0, "mn")), yes(part(4, 0, "ijkl")), {}}},
		{behind(wrote, stop(5, 3), next(99), stop(4, 2), next(99), stop(0, 1)), []int{99, 99}, []told{yes(stops(0, 1)), yes(part(0, 0, "abcdef"))}},
		{behind(ahead, stop(0, 64), stop(1, 2)), []int{3, 3, 4, 99}, []told{yes(stops(1, 2)), {}, yes(stops(0, 64)), {}}},
		{behind(wrote, stop(4, 1<<30)), []int{9, 20, 99, 99}, []told{{}, yes(stops(4, 1<<30)), yes(part(0, 0, "abcdef")), yes(part(1, 0, "mn"))}},
		{behind(came, read(5, 4)), []int{99, 99}, []told{yes(more(5, 12)), {}}},
		{behind(came, read(5, 3), read(1, 4)), []int{99, 99}, []told{yes(more(1, 12)), {}}},
		// MaxData is first, and of all streams together.
		{behind(came, read(5, 4), read(1, 5)), []int{99, 99, 99}, []told{yes(more(1, 13)), yes(more(5, 12)), {}}},
		{behind(came, read(5, 5), read(1, 5), stop(0, 1), write(0, "a")), []int{99, 99, 99, 99, 99, 99}, []told{yes(most(30)), yes(stops(0, 1)), yes(more(1, 13)), yes(more(5, 13)), yes(part(0, 0, "a")), {}}},
		{behind(came, read(5, 8), read(1, 8)), []int{1, 2, 2, 3, 99, 99}, []told{{}, yes(most(36)), {}, yes(more(1, 16)), yes(more(5, 16)), {}}},
		{behind(came, read(5, 8), read(1, 8), next(99), next(99), next(99), on(part(1, 8, "abcdefgh")), read(1, 9)), []int{99, 99}, []told{yes(more(1, 24)), {}}},
		{behind(came, read(5, 8), read(1, 8), next(99), next(99), next(99), on(part(1, 8, "abcdefgh")), read(1, 9), on(part(5, 8, "ab")), read(5, 2)), []int{99, 99, 99}, []told{yes(most(46)), yes(more(1, 24)), {}}},
		// What a Reset tells counts as taken.
		{behind(ahead, on(given(1, 3, 8)), on(given(5, 3, 1))), []int{99}, []told{{}}},
		{behind(ahead, on(given(1, 3, 8)), on(given(5, 3, 2))), []int{99, 99}, []told{yes(most(30)), {}}},
		// What was lost is told again, with what it is by then; an older one is not.
		{behind(came, read(5, 5), read(1, 5), next(99), lost(most(20))), []int{2}, []told{{}}},
		{behind(came, read(5, 5), read(1, 5), next(99), lost(most(30)), lost(most(30))), []int{2, 2}, []told{yes(most(30)), {}}},
		{behind(came, read(5, 5), read(1, 5), next(99), lost(most(30)), read(1, 1)), []int{2, 2}, []told{yes(most(31)), {}}},
		{behind(came, read(5, 5), read(1, 5), next(99), lost(most(30)), lost(most(20))), []int{1, 2, 2}, []told{{}, yes(most(30)), {}}},
		{behind(came, read(5, 5), read(1, 5), next(99), lost(most(30)), read(1, 1), next(99), lost(most(30))), []int{2}, []told{{}}},
		{behind(came, read(5, 5), read(1, 5), next(99), lost(most(30)), read(1, 1), next(99), lost(most(31))), []int{2, 2}, []told{yes(most(31)), {}}},
		{behind(came, read(5, 5), read(1, 5), next(99), acked(most(30)), read(1, 3)), []int{2}, []told{{}}},
		{behind(came, read(5, 5), read(1, 5), next(99), lost(api.Frame{Kind: api.Blocked, Limit: 30}), lost(api.Frame{Kind: api.MaxStreamsOf, Limit: 30})), []int{2}, []told{{}}},
	} {
		s, m := run(t, false, params(20, 8, 3), c.ahead...)
		for k, room := range c.rooms {
			if x := ask(t, s, room); !same(x, c.want[k]) {
				t.Errorf("P18.3: row %d: Next(%d), the %d. one: %+v, want %+v", i, room, k, x, c.want[k])
			}
			m.next(room)
			alike(t, s, m, i)
		}
		drain(t, s, m, i)
	}
}

// TestTogether asks that all streams together send what is allowed, and no byte more; what was sent once may be sent again.
func TestTogether(t *testing.T) {
	both(func(server bool, own, other uint64) {
		for allowed := range uint64(14) {
			s, m := run(t, server, params(9, 9, 9), allow(params(allowed, 5, 3)), open(), open(), open(), write(own, "abcdefg"), write(own+4, "hijklmn"), write(own+8, "op"))
			drain(t, s, m, allowed)
			if s.Sent() != min(allowed, 12) {
				t.Errorf("P18.3: Sent %d of %d", s.Sent(), allowed)
			}
			for _, f := range []api.Frame{part(own, 0, "abcde"), part(own+4, 0, "hijkl"), part(own+8, 0, "op")} {
				s.Lost(f)
				m.lose(f)
			}
			sum := 0
			for n := 0; n < 9; n++ {
				x := ask(t, s, 99)
				sum += len(x.f.Data)
				m.next(99)
			}
			if sum != int(min(allowed, 12)) || s.Sent() != min(allowed, 12) {
				t.Errorf("P18.3: again: %d of %d, Sent %d", sum, allowed, s.Sent())
			}
			s.On(most(allowed + 1))
			m.on(most(allowed + 1))
			drain(t, s, m, allowed)
			if s.Sent() != min(allowed+1, 12) {
				t.Errorf("P18.3: Sent %d of one more than %d", s.Sent(), allowed)
			}
		}
	})
}

// TestHalf asks of many limits of all streams together how many bytes must be read ahead of more being allowed, and how many may come then.
func TestHalf(t *testing.T) {
	both(func(server bool, own, other uint64) {
		for data := range uint64(130) {
			half := data / 2
			if data < 2 {
				half = 1
			}
			s := New(server, params(data, 2048, 2))
			s.On(part(other, 0, long(int(data/3), 1)))
			s.On(part(other+4, 0, long(int(data-data/3), 2)))
			if s.Got() != data || s.On(part(other, data/3+1, "")) != api.FlowControl {
				t.Errorf("P18.2: %d: Got %d", data, s.Got())
			}
			if x := ask(t, s, 99); x.ok {
				t.Errorf("P18.3: %d: nothing was read: %+v", data, x)
			}
			one := min(half-1, data/3)
			s.Read(other, int(one))
			s.Read(other+4, int(half-1-one))
			if x := ask(t, s, 99); x.ok || s.Limit() != data {
				t.Errorf("P18.3: %d, %d read: %+v", data, half-1, x)
			}
			s.Read(other+4, 1)
			if data == 0 {
				continue
			}
			if x := ask(t, s, 99); !same(x, yes(most(data+half))) || s.Limit() != data+half {
				t.Errorf("P18.3: %d, %d read: %+v, Limit %d", data, half, x, s.Limit())
			}
			if x := ask(t, s, 99); x.ok {
				t.Errorf("P18.3: %d: told twice: %+v", data, x)
			}
			at := data / 3
			if a, b := s.On(part(other, at+half+1, "")), s.On(part(other, at+half, "")); a != api.FlowControl || b != api.NoError {
				t.Errorf("P18.2: %d: %d, %d", data, a, b)
			}
		}
	})
}

// TestWindow asks how many bytes of one stream may come: MaxStreamData, and MaxBuffer at most.
func TestWindow(t *testing.T) {
	both(func(server bool, own, other uint64) {
		for _, each := range []uint64{0, 1, 2, 2047, 2048, 2049, 1 << 40, api.MaxVar, far} {
			s := New(server, params(1<<40, each, 1))
			s.Allow(params(0, 0, 1))
			s.Open()
			for _, id := range []uint64{own, other} {
				if a, b := s.On(part(id, min(each, 2048)+1, "")), s.On(part(id, min(each, 2048), "")); a != api.FlowControl || b != api.NoError {
					t.Errorf("P18.1: a window of %d: %d, %d", each, a, b)
				}
			}
		}
	})
}

// TestHeld holds Held against rows that were worked out by hand.
func TestHeld(t *testing.T) {
	both(func(server bool, own, other uint64) {
		ahead := []step{allow(params(99, 99, 2)), open(), write(own, "abcdefgh")}
		sent := behind(ahead, next(26))
		came := []step{on(part(other, 2, "cd")), on(part(other, 6, "g"))}
		for i, c := range []struct {
			l    []step
			want int
		}{
			{nil, 0},
			{ahead, 8},
			{sent, 8},
			{behind(sent, write(own, "ij")), 10},
			{behind(ahead, open(), write(own+4, "xyz")), 11},
			{behind(ahead, acked(part(own, 0, "abc"))), 8},
			{behind(sent, acked(part(own, 0, "ab"))), 6},
			{behind(sent, acked(part(own, 0, ""))), 8},
			{behind(sent, acked(part(own, 0, "ab")), acked(part(own, 0, "ab"))), 6},
			{behind(sent, acked(part(own, 2, "cd"))), 6},
			{behind(sent, acked(part(own, 2, "cd")), acked(part(own, 1, "bcde"))), 4},
			{behind(sent, acked(part(own, 4, "ef")), acked(part(own, 0, "a")), acked(part(own, 2, "c"))), 4},
			{behind(sent, acked(part(own, 4, "ef")), acked(part(own, 0, "a")), acked(part(own, 2, "c")), acked(part(own, 0, "abcd"))), 2},
			{behind(sent, acked(part(own, 0, "abcdefgh"))), 2},
			{behind(sent, acked(part(own, 6, "gh"))), 8},
			{behind(sent, acked(part(own, 5, "fgh"))), 7},
			{behind(sent, acked(part(own, far, "ab"))), 8},
			{behind(sent, acked(part(own, far-1, "abc"))), 8},
			{behind(sent, acked(part(own, 0, "abcdef")), lost(part(own, 0, "abcdef"))), 2},
			{behind(sent, lost(part(own, 0, "abcdef"))), 8},
			{behind(sent, acked(part(own+4, 0, "ab")), acked(part(other, 0, "ab")), acked(part(2, 0, "ab"))), 8},
			{behind(sent, acked(api.Frame{Kind: api.Crypto, Stream: own, Data: []byte("abc")}), acked(stops(own, 3)), acked(given(own, 3, 3))), 8},
			{behind(sent, finish(own), next(99), acked(last(own, 6, "gh")), acked(part(own, 0, "abcdef"))), 0},
			// What is given up is not sent any more, but it was written.
			{behind(sent, reset(own, 3)), 8},
			{behind(sent, reset(own, 3), acked(part(own, 0, "abcd"))), 4},
			{behind(sent, reset(own, 3), next(99), acked(given(own, 3, 6))), 8},
			// What came.
			{came, 3},
			{behind(came, on(part(other, 2, "cd"))), 3},
			{behind(came, on(part(other, 1, "bcde"))), 5},
			{behind(came, on(part(other, 0, "abcdefgh"))), 8},
			{behind(came, on(last(other, 9, ""))), 3},
			{behind(came, read(other, 9)), 3},
			{behind(came, on(part(other, 0, "ab")), read(other, 3)), 2},
			{behind(came, on(part(other, 0, "ab")), read(other, 9)), 1},
			{behind(came, on(part(other, 0, "ab")), read(other, 3), on(part(other, 0, "abcd"))), 2},
			{behind(came, on(part(other, 0, "ab")), read(other, 3), on(part(other, 1, "bcdef"))), 4},
			{behind(came, on(part(other+4, 0, "xy")), on(part(other, 99, "z"))), 5},
			{behind(came, on(part(other+4, 0, "xy")), on(part(other, 20, "z"))), 6},
			{behind(came, on(part(other, 0, "abcdef")), on(last(other, 7, "")), read(other, 9)), 0},
			{behind(came, on(part(other, 0, "abcdef")), on(last(other, 7, "")), read(other, 9), on(last(other, 0, "abcdefg"))), 0},
			// What was given up by the other end counts as read.
			{behind(came, on(given(other, 3, 8))), 0},
			{behind(came, on(given(other, 3, 8)), on(part(other, 0, "ab"))), 0},
			{behind(came, on(given(other, 3, 8)), read(other, 9)), 0},
			{behind(came, on(given(other, 3, 6))), 3},
			// Both together.
			{behind(sent, on(part(own, 1, "xyz")), on(part(other, 0, "a")), acked(part(own, 1, "b"))), 11},
			{behind(sent, on(part(own, 1, "xyz")), write(other, "q")), 11},
			{behind(sent, on(part(own, 1, "xyz")), on(part(other, 0, "a")), write(other, "qr")), 14},
		} {
			s, m := run(t, server, params(64, 64, 2), c.l...)
			if s.Held() != c.want {
				t.Errorf("P18.3: row %d: Held %d, want %d", i, s.Held(), c.want)
			}
			drain(t, s, m, i)
		}
	})
}

// TestOrders acknowledges, and takes, every byte of a stream alone, in every order, and counts what is left.
func TestOrders(t *testing.T) {
	order := []uint64{0, 1, 2, 3, 4, 5}
	orders(order, 0, func() {
		s := New(false, params(9, 9, 1))
		s.Allow(params(9, 9, 1))
		s.Open()
		s.Write(0, []byte("abcdef"))
		s.Next(99)
		for n, off := range order {
			s.Acked(part(0, off, "x"))
			if s.Held() != 5-n {
				t.Fatalf("P18.3: acknowledged %v: Held %d", order[:n+1], s.Held())
			}
		}
		for n, off := range order {
			s.On(part(1, off, "x"))
			if s.Held() != n+1 {
				t.Fatalf("P18.3: came %v: Held %d", order[:n+1], s.Held())
			}
		}
	})
}

// orders does what there is to do by every order of what is in l from n on.
func orders(l []uint64, n int, do func()) {
	if n == len(l) {
		do()
		return
	}
	for i := n; i < len(l); i++ {
		l[n], l[i] = l[i], l[n]
		orders(l, n+1, do)
		l[n], l[i] = l[i], l[n]
	}
}

// TestRoom asks for a MaxData of every length by every room about its size.
func TestRoom(t *testing.T) {
	for _, c := range []struct {
		data uint64
		size int
	}{{1, 2}, {63, 2}, {64, 3}, {1<<14 - 1, 3}, {1 << 14, 5}, {1<<30 - 1, 5}, {1 << 30, 9}, {1 << 40, 9}} {
		s := New(false, params(c.data, 9, 1))
		for range 3 {
			s.Lost(most(c.data))
			for _, room := range []int{math.MinInt, -1, 0, 1, c.size - 1} {
				if x := ask(t, s, room); !same(x, told{}) {
					t.Fatalf("P18.3: %d, room %d: %+v", c.data, room, x)
				}
			}
			for _, room := range []int{c.size, c.size + 1, 512, 513, math.MaxInt} {
				if x := ask(t, s, room); !same(x, yes(most(c.data))) {
					t.Fatalf("P18.3: %d, room %d: %+v", c.data, room, x)
				}
				if x := ask(t, s, room); !same(x, told{}) {
					t.Fatalf("P18.3: %d, the second time: %+v", c.data, x)
				}
				s.Lost(most(c.data))
			}
		}
	}
	// Where it has no room, what has some goes ahead of it.
	s := New(false, params(1<<30, 9, 1))
	s.On(part(1, 0, ""))
	s.Stop(1, 3)
	s.Lost(most(1 << 30))
	if x := ask(t, s, 8); !same(x, yes(stops(1, 3))) {
		t.Errorf("P18.3: room 8: %+v", x)
	}
	if x := ask(t, s, 9); !same(x, yes(most(1<<30))) {
		t.Errorf("P18.3: room 9: %+v", x)
	}
}

// small is every step out of few numbers, of one own stream and two of the other end.
func small(own, other uint64) []step {
	few := []step{
		open(), allow(params(12, 7, 2)), write(own, "abc"), write(other, "defg"), finish(own), reset(own, 7),
		read(other, 2), read(other, 99), read(own, 99), stop(other, 7), next(2), next(22), next(99),
	}
	for _, f := range []api.Frame{part(other, 0, "abcd"), last(other, 4, "ef"), part(other+4, 2, "xyz"), given(other, 1, 6), part(own, 0, "mno"), stops(own, 3), more(own, 9), most(14)} {
		few = append(few, on(f))
	}
	return append(few, acked(part(own, 0, "ab")), acked(last(own, 0, "abc")), lost(part(own, 0, "abc")), lost(most(10)), lost(more(other, 6)))
}

// TestAll holds every row of three small steps behind some beginnings, and all that is left to be sent and read behind it.
func TestAll(t *testing.T) {
	both(func(server bool, own, other uint64) {
		few := small(own, other)
		ahead := []step{allow(params(9, 5, 1)), open()}
		for _, l := range [][]step{
			behind(ahead, write(own, "abcd"), next(22), on(part(other, 0, "ab"))),
			behind(ahead, write(own, "abcdef"), next(99), on(part(other+4, 0, "ab")), on(part(other, 0, "abcdef")), read(other, 6)),
		} {
			for _, x := range few {
				for _, y := range few {
					s, m := run(t, server, params(10, 6, 2), behind(l, x, y)...)
					drain(t, s, m, []any{l, x, y})
					for _, z := range few {
						s, m := New(server, params(10, 6, 2)), fresh(server, params(10, 6, 2))
						for _, one := range behind(l, x, y, z) {
							tell(t, s, m, one)
						}
						alike(t, s, m, []any{l, x, y, z})
						drain(t, s, m, []any{l, x, y, z})
					}
				}
			}
		}
	})
}

// TestSizes tells numbers of any size: all calls end, and what no one may have is refused.
func TestSizes(t *testing.T) {
	numbers := []uint64{0, 1, 9, 10, 11, 1<<40 - 1, 1 << 40, 1<<40 + 1, 1<<62 - 2, api.MaxVar, api.MaxVar + 1, 1<<63 - 1, 1 << 63, far - 3, far - 1, far}
	both(func(server bool, own, other uint64) {
		for _, n := range numbers {
			for _, x := range []step{
				on(part(other, n, "")), on(part(other, n, "abc")), on(last(own, n, "abc")), on(given(other, n, n)), on(given(own, 1, n)), on(stops(own, n)), on(more(own, n)), on(more(other, n)), on(most(n)),
				stop(other, n), reset(own, n), read(n, 5), write(n, "abc"), finish(n), allow(params(n, n, n)), acked(part(own, n, "abc")), lost(part(own, n, "abc")), lost(most(n)), lost(more(other, n)), lost(given(own, n, n)),
			} {
				s, m := run(t, server, params(10, 6, 2), allow(params(9, 5, 1)), open(), write(own, "abcd"), next(22), on(part(other, 0, "ab")), x)
				drain(t, s, m, x)
			}
			// What no number is promised of: only that calls end.
			s := New(server, params(n, n, n))
			s.Allow(params(n, n, n))
			for _, id := range []uint64{own, other, own + 4, other + 4, n, n + 1} {
				s.Open()
				s.Write(id, []byte("abc"))
				for _, f := range []api.Frame{part(id, n, "abc"), part(id, 0, long(513, 0)), last(id, n, ""), given(id, n, n), stops(id, n), more(id, n), most(n), {}} {
					s.On(f)
					s.Next(int(n % 600))
					s.Lost(f)
					s.Next(math.MaxInt)
					s.Acked(f)
					s.Read(id, int(n))
				}
			}
			if s.Held() < 0 || len(s.IDs()) > 16 {
				t.Errorf("R1: %d: Held %d, IDs %v", n, s.Held(), s.IDs())
			}
		}
		for _, n := range []int{math.MinInt, -1, 0, 1, 1 << 32, math.MaxInt} {
			s, m := run(t, server, params(10, 6, 2), allow(params(9, 5, 1)), open(), write(own, "abcd"), next(n), on(part(other, 0, "abcd")), read(other, n), next(n), stop(other, 3), next(n))
			drain(t, s, m, n)
		}
	})
}

// odd is a step of any kind, mostly of a stream that is there, and near what may come or was sent.
func odd(q *rand.Rand, m *model, under []api.Frame) step {
	ids := append(m.ids(), uint64(q.Intn(12)))
	id := ids[q.Intn(len(ids))]
	top, sent, room := uint64(0), uint64(0), uint64(0)
	if h := m.all[id]; h != nil {
		top, sent = h.recv.Highest(), h.send.Sent()
		room = h.recv.Limit() - top
	}
	switch k := q.Intn(100); {
	case k < 20:
		off := uint64(max(0, int(top)-q.Intn(20)))
		f := part(id, off, long(int(min(uint64(q.Intn(40)), room+1)), int(off)))
		f.Fin = q.Intn(60) == 0
		return on(f)
	case k < 40:
		return read(id, q.Intn(60)-5)
	case k < 52:
		return write(id, long(q.Intn(50), int(top)))
	case k < 70:
		return next(q.Intn(60) - 2)
	case k < 88:
		if len(under) == 0 {
			return open()
		}
		f := under[q.Intn(len(under))]
		if q.Intn(3) == 0 {
			return lost(f)
		}
		return acked(f)
	}
	return rare(q, m, id, top, sent)
}

// rare is a step of those kinds that come seldom.
func rare(q *rand.Rand, m *model, id, top, sent uint64) step {
	switch q.Intn(16) {
	case 0:
		return open()
	case 1:
		return allow(params(uint64(q.Intn(100)), uint64(q.Intn(50)), uint64(q.Intn(4))))
	case 2, 3, 4:
		return on(most(m.allowed + uint64(q.Intn(60))))
	case 5, 6, 7, 8:
		return on(more(id, sent+uint64(q.Intn(60))))
	case 9:
		if q.Intn(9) == 0 {
			return on(given(id, uint64(q.Intn(99)), top+uint64(q.Intn(3))))
		}
		return on(api.Frame{Kind: q.Intn(30), Stream: id, Offset: top, Limit: sent})
	case 10:
		if q.Intn(9) == 0 {
			return reset(id, uint64(q.Intn(99)))
		}
		return acked(part(id, uint64(max(0, int(sent)-q.Intn(20))), long(q.Intn(30), 0)))
	case 11:
		return stop(id, uint64(q.Intn(99)))
	case 12:
		if q.Intn(9) == 0 {
			return finish(id)
		}
		return lost(part(id, uint64(max(0, int(sent)-q.Intn(20))), long(q.Intn(30), 0)))
	case 13:
		return lost(most(m.limit - uint64(q.Intn(2))))
	case 14:
		if q.Intn(9) == 0 {
			return on(stops(id, uint64(q.Intn(99))))
		}
	}
	return lost(more(id, m.limit/4))
}

// TestRows holds long rows of steps of all kinds, step by step.
func TestRows(t *testing.T) {
	q := rand.New(rand.NewSource(18))
	seen := map[string]int{}
	for round := range 150 {
		mine := params(uint64(q.Intn(200)), uint64(q.Intn(100)), uint64(q.Intn(5)))
		s, m := New(round%2 == 0, mine), fresh(round%2 == 0, mine)
		var under []api.Frame
		for range 200 {
			x := odd(q, m, under)
			before := m.limit
			tell(t, s, m, x)
			alike(t, s, m, []any{round, x})
			seen[x.call]++
			if m.limit > before {
				seen["MaxData"]++
			}
			if x.call == "Next" && q.Intn(3) == 0 {
				if f, ok := s.Next(99); ok {
					m.next(99)
					under = append(under, f)
				} else {
					m.next(99)
				}
			}
		}
		drain(t, s, m, round)
	}
	for _, call := range []string{"Allow", "Open", "Write", "Finish", "Read", "Reset", "Stop", "On", "Next", "Acked", "Lost", "MaxData"} {
		if seen[call] == 0 {
			t.Errorf("the rows never have %s", call)
		}
	}
}

// end is one end of a way, and what was written, read and told there, by the streams' ids.
type end struct {
	s           *Set
	wrote, read map[uint64]string
	over        map[uint64]got    // what Read told last, where it told the end or a reset
	code        map[uint64]uint64 // of those that this end gave up
	asked       map[uint64]uint64 // of those that it asked the other end to give up
	under       []api.Frame
}

// ends are a client and a server, each with three streams of its own.
func ends(t *testing.T, a, b api.Params) [2]*end {
	t.Helper()
	var l [2]*end
	for i, p := range []api.Params{a, b} {
		l[i] = &end{s: New(i == 1, p), wrote: map[uint64]string{}, read: map[uint64]string{}, over: map[uint64]got{}, code: map[uint64]uint64{}, asked: map[uint64]uint64{}}
	}
	l[0].s.Allow(b)
	l[1].s.Allow(a)
	for i := range l {
		for n := range 3 {
			if id, why := l[i].s.Open(); id != uint64(4*n+i) || why != api.OK {
				t.Fatalf("P18.1: Open: %d, %v", id, why)
			}
		}
	}
	return l
}

// say writes a piece of a stream, ends it, gives it up, or asks the other end to.
func (e *end) say(q *rand.Rand, id uint64, n int, gives bool) {
	switch {
	case gives && n > 300 && id%8 == 1:
		if e.s.Stop(id, id+50) == api.OK {
			e.asked[id] = id + 50
		}
	case n < 400:
		x := long(q.Intn(60), int(id)+n)
		k, _ := e.s.Write(id, []byte(x))
		e.wrote[id] += x[:k]
	case gives && id%8 == 4:
		if e.s.Reset(id, id+70) == api.OK {
			e.code[id] = id + 70
		}
		return
	}
	if n >= 400 {
		e.s.Finish(id)
	}
}

// hear reads a piece of a stream.
func (e *end) hear(q *rand.Rand, id uint64) bool {
	x := take(e.s, id, q.Intn(80))
	e.read[id] += x.data
	if x.end || x.why == api.ErrReset {
		e.over[id] = x
	}
	return x.why == api.OK || x.why == api.ErrReset
}

// carry brings one frame of e's, any of those under way, to the other end, loses it, or brings it and leaves it under way.
func (e *end) carry(t *testing.T, q *rand.Rand, to *end) {
	t.Helper()
	i := q.Intn(len(e.under))
	f := e.under[i]
	kind := q.Intn(5)
	if kind > 0 {
		if code := to.s.On(f); code != api.NoError {
			t.Fatalf("P18.4: On(%+v): %d", f, code)
		}
	}
	switch kind {
	case 0:
		e.s.Lost(f)
	case 1:
		return
	default:
		e.s.Acked(f)
	}
	end := len(e.under) - 1
	e.under[i] = e.under[end]
	e.under = e.under[:end]
}

// TestThrough brings texts of twelve halves both ways, over a way that loses, doubles and keeps no order; some are given up on the way.
func TestThrough(t *testing.T) {
	q := rand.New(rand.NewSource(81))
	stopped := 0
	for round := range 60 {
		some := func() api.Params {
			return params(uint64(1+q.Intn(400)), uint64(1+q.Intn(150)), 3)
		}
		l := ends(t, some(), some())
		quiet := 0
		for n := 0; quiet < 300; n++ {
			if n > 150000 {
				t.Fatalf("W4: round %d: it does not come through", round)
			}
			i := q.Intn(2)
			e := l[i]
			e.say(q, uint64(4*q.Intn(3)+q.Intn(2)), n, round%2 == 1)
			quiet++
			if x := ask(t, e.s, q.Intn(120)); x.ok {
				e.under = append(e.under, x.f)
				quiet = 0
			}
			if len(e.under) > 0 && q.Intn(2) == 0 {
				e.carry(t, q, l[1-i])
				quiet = 0
			}
			id := uint64(4*q.Intn(3) + q.Intn(2))
			if e.hear(q, id) {
				quiet = 0
			}
			if wrote := l[1-i].wrote[id]; len(e.read[id]) > len(wrote) || e.read[id] != wrote[:len(e.read[id])] {
				t.Fatalf("W1: round %d: stream %d: other bytes came", round, id)
			}
			if e.s.Got() > e.s.Limit() || e.s.Sent() > e.s.Allowed() || e.s.Held() > 6*2*2048 {
				t.Fatalf("W3: round %d: Got %d, Limit %d, Sent %d, Allowed %d, Held %d", round, e.s.Got(), e.s.Limit(), e.s.Sent(), e.s.Allowed(), e.s.Held())
			}
		}
		for i, e := range l {
			stopped += whole(t, round, e, l[1-i])
		}
	}
	if stopped == 0 {
		t.Error("no stream is given up as it was asked to be")
	}
}

// whole asks that all that one end wrote came to the other one, its end just at its length, its reset as it was; and is how many were given up as they were asked to be.
func whole(t *testing.T, round int, e, from *end) int {
	t.Helper()
	stopped := 0
	for _, id := range []uint64{0, 1, 4, 5, 8, 9} {
		code, gone := from.code[id]
		if asked, ok := e.asked[id]; ok && e.over[id].why == api.ErrReset && !gone {
			code, gone = asked, true
			stopped++
		}
		if gone {
			if e.over[id] != (got{code: code, why: api.ErrReset}) {
				t.Errorf("W1: round %d: the reset of %d: %+v", round, id, e.over[id])
			}
		} else if e.read[id] != from.wrote[id] || !e.over[id].end {
			t.Errorf("W4: round %d: stream %d: %d of %d", round, id, len(e.read[id]), len(from.wrote[id]))
		}
	}
	if e.s.Got() != from.s.Sent() || len(from.code)+len(e.code)+len(from.asked)+len(e.asked) == 0 && e.s.Held() != 0 {
		t.Errorf("W3: round %d: Got %d, Sent %d, Held %d", round, e.s.Got(), from.s.Sent(), e.s.Held())
	}
	return stopped
}

// spoil writes over all of x, its spare room too.
func spoil(x []byte) {
	x = x[:cap(x)]
	for i := range x {
		x[i] = '!'
	}
}

// TestMemory asks that what is handed in is neither kept nor changed, nor its spare room, and that no answer shares memory.
func TestMemory(t *testing.T) {
	s := New(false, params(99, 99, 2))
	s.Allow(params(99, 99, 2))
	s.Open()
	row := []byte("..abcdef..")
	if n, why := s.Write(0, row[2:8]); n != 6 || why != api.OK || string(row) != "..abcdef.." {
		t.Fatalf("R2: Write: %d, %v, %s", n, why, row)
	}
	f := part(1, 0, "")
	f.Data = row[2:8]
	if code := s.On(f); code != api.NoError || string(row) != "..abcdef.." {
		t.Fatalf("R2: On: %d, %s", code, row)
	}
	s.Acked(api.Frame{Kind: api.Stream, Stream: 0, Data: row[2:4]})
	s.Lost(api.Frame{Kind: api.Stream, Stream: 0, Data: row[2:4]})
	if string(row) != "..abcdef.." {
		t.Fatalf("R2: what was handed in is changed: %s", row)
	}
	spoil(row)
	x, y := ask(t, s, 23), ask(t, s, 22)
	if !same(x, yes(part(0, 0, "abc"))) || !same(y, yes(part(0, 3, "de"))) {
		t.Errorf("R2: what was handed in is kept: %+v, %+v", x, y)
	}
	spoil(x.f.Data)
	if string(y.f.Data) != "de" {
		t.Errorf("R2: two answers share memory: %+v", y)
	}
	s.Lost(part(0, 0, "abc"))
	if x := ask(t, s, 99); !same(x, yes(part(0, 0, "abc"))) {
		t.Errorf("R2: an answer shares memory with the streams: %+v", x)
	}
	b, _, _, _ := s.Read(1, 3)
	spoil(b)
	if z := take(s, 1, 9); string(b[:1]) != "!" || z != (got{data: "def"}) {
		t.Errorf("R2: an answer shares memory with the streams: %+v", z)
	}
	ids := s.IDs()
	for i := range ids[:cap(ids)] {
		ids[:cap(ids)][i] = 77
	}
	if !slices.Equal(s.IDs(), []uint64{0, 1}) {
		t.Errorf("R2: IDs share memory: %v", s.IDs())
	}
}

// TestAlone asks that no end sees what another one is told, that asking changes nothing, and that params that were handed in are not kept.
func TestAlone(t *testing.T) {
	p := params(10, 6, 2)
	var all []*Set
	var models []*model
	for i := range 8 {
		l := []step{allow(p), open(), write(uint64(i%2), long(i, 0)), on(part(uint64(1-i%2), uint64(i/2), "ab")), next(20 + i)}
		s, m := run(t, i%2 == 1, p, l...)
		all, models = append(all, s), append(models, m)
	}
	for range 3 {
		for i, s := range all {
			alike(t, s, models[i], i)
		}
	}
	for i, s := range all {
		tell(t, s, models[i], on(part(uint64(1-i%2), 0, "cde")))
		drain(t, s, models[i], i)
		for j, other := range all {
			alike(t, other, models[j], []int{i, j})
		}
	}
}

// TestForgets asks that of each stream's bytes no more is marked than what waits.
func TestForgets(t *testing.T) {
	s := New(false, params(1<<30, 2048, 1))
	s.Allow(params(1<<30, 1<<30, 1))
	s.Open()
	for n := range uint64(300) {
		off := 100 * n
		s.Write(0, []byte(long(100, int(off))))
		s.On(part(1, off, long(100, int(off))))
		s.Read(1, 100)
		for range 4 {
			if x := ask(t, s, 140); x.ok {
				s.Acked(x.f)
			}
		}
		if x := s.all[0][0]; s.Held() != 0 || len(x.acked.set)+len(x.came.set) > 0 {
			t.Fatalf("W3: at %d: Held %d, marked %d, %d", off, s.Held(), len(x.acked.set), len(x.came.set))
		}
	}
}
