package sent

import (
	"bytes"
	"math"
	"math/rand"
	"reflect"
	"slices"
	"testing"

	"narthex/api"
	"narthex/frame"
)

// wide is how many numbers in a row a small ledger goes over.
const wide = 6

// of is a packet that asks, of that number; its time and size tell it from its neighbours, and its time does not rise with its number.
func of(n uint64) api.Packet {
	data := []byte{byte(n), byte(n >> 8), 'x'}
	return api.Packet{
		Number: n, Time: int64(1000 - n%7*10), Size: int(n%50) + 1, Asks: true,
		Frames: []api.Frame{{Kind: api.Crypto, Offset: n % 99, Data: data}, {Kind: api.Ping}},
	}
}

// silent is the same, but it need not be acknowledged.
func silent(n uint64) api.Packet {
	p := of(n)
	p.Asks = false
	return p
}

// sized is of(n) of that time and size.
func sized(n uint64, time int64, size int) api.Packet {
	p := of(n)
	p.Time, p.Size = time, size
	return p
}

// rows makes ranges of pairs.
func rows(l ...uint64) []api.Range {
	var out []api.Range
	for i := 0; i < len(l); i += 2 {
		out = append(out, api.Range{Lo: l[i], Hi: l[i+1]})
	}
	return out
}

// numbers are those of the packets.
func numbers(l []api.Packet) []uint64 {
	var out []uint64
	for _, p := range l {
		out = append(out, p.Number)
	}
	return out
}

// same is whether both are one packet, frame by frame.
func same(a, b api.Packet) bool {
	return a.Number == b.Number && a.Time == b.Time && a.Size == b.Size && a.Asks == b.Asks && slices.EqualFunc(a.Frames, b.Frames, frame.Same)
}

// nothing is whether p is the zero value.
func nothing(p api.Packet) bool { return same(p, api.Packet{}) }

// model is a ledger by the chapter's words: all numbers are gone through one by one.
type model struct {
	next, acked uint64
	heard       bool
	kept        map[uint64]api.Packet
}

// fresh is a model of nothing.
func fresh() *model { return &model{kept: map[uint64]api.Packet{}} }

// numbers are those that are kept, rising.
func (m *model) numbers() []uint64 {
	var l []uint64
	for n := range m.kept {
		l = append(l, n)
	}
	slices.Sort(l)
	return l
}

// add is P11.1's Add.
func (m *model) add(p api.Packet) api.Errno {
	switch {
	case p.Number < m.next, p.Number > api.MaxVar-1, p.Time < 0, p.Size < 0, p.Size > 512:
		return api.ErrArg
	case p.Asks && len(m.kept) >= 64:
		return api.ErrFull
	}
	m.next = p.Number + 1
	if p.Asks {
		m.kept[p.Number] = p
	}
	return api.OK
}

// drop answers the kept packets that are meant, rising, and keeps them no more.
func (m *model) drop(meant func(n uint64) bool) []api.Packet {
	var out []api.Packet
	for _, n := range m.numbers() {
		if meant(n) {
			out = append(out, m.kept[n])
			delete(m.kept, n)
		}
	}
	return out
}

// ack is P11.2's Ack of ranges that may be.
func (m *model) ack(r []api.Range) (got, lost []api.Packet) {
	m.acked, m.heard = max(m.acked, r[len(r)-1].Hi-1), true
	got = m.drop(func(n uint64) bool {
		return slices.ContainsFunc(r, func(x api.Range) bool { return x.Lo <= n && n < x.Hi })
	})
	lost = m.drop(func(n uint64) bool { return n+3 <= m.acked })
	return got, lost
}

// take is P11.2's Take.
func (m *model) take(n uint64) (api.Packet, bool) {
	p, ok := m.kept[n]
	delete(m.kept, n)
	return p, ok
}

// alike holds every answer of l that changes nothing against the model's.
func alike(t *testing.T, what string, l *Ledger, m *model) {
	t.Helper()
	all := m.numbers()
	flight := 0
	for _, p := range m.kept {
		flight += p.Size
	}
	if l.Len() != len(all) || l.Flight() != flight || l.Next() != m.next {
		t.Fatalf("P11: %s: Len %d, Flight %d, Next %d, not %d, %d, %d", what, l.Len(), l.Flight(), l.Next(), len(all), flight, m.next)
	}
	if n, ok := l.Acked(); n != m.acked || ok != m.heard {
		t.Fatalf("P11.2: %s: Acked %d, %t, not %d, %t", what, n, ok, m.acked, m.heard)
	}
	var oldest, last api.Packet
	if len(all) > 0 {
		oldest, last = m.kept[all[0]], m.kept[all[len(all)-1]]
	}
	if p, ok := l.Oldest(); ok != (len(all) > 0) || !same(p, oldest) {
		t.Fatalf("P11.2: %s: Oldest %v, %t, not %v", what, p, ok, oldest)
	}
	if at, ok := l.Last(); ok != (len(all) > 0) || at != last.Time {
		t.Fatalf("P11.2: %s: Last %d, %t, not %d", what, at, ok, last.Time)
	}
}

// ends holds all that l keeps against the model's, by Clear of both.
func ends(t *testing.T, what string, l *Ledger, m *model) {
	t.Helper()
	alike(t, what, l, m)
	want := m.drop(func(uint64) bool { return true })
	if got := l.Clear(); !slices.EqualFunc(got, want, same) {
		t.Fatalf("P11.2: %s: Clear %v, not %v", what, got, want)
	}
	alike(t, what+", cleared", l, m)
}

// both are a ledger and a model of these packets.
func both(t *testing.T, l ...api.Packet) (*Ledger, *model) {
	t.Helper()
	s, m := New(), fresh()
	for _, p := range l {
		if got, want := s.Add(p), m.add(p); got != want {
			t.Fatalf("P11.1: Add of %d: %v, not %v", p.Number, got, want)
		}
	}
	return s, m
}

// row is packets that ask, of the numbers from lo on, below hi.
func row(lo, hi uint64) []api.Packet {
	var l []api.Packet
	for n := lo; n < hi; n++ {
		l = append(l, of(n))
	}
	return l
}

// wrongPackets are those that Add refuses, whatever was sent.
func wrongPackets(n uint64) []api.Packet {
	var l []api.Packet
	for _, p := range []api.Packet{
		of(api.MaxVar), of(api.MaxVar + 1), of(1 << 63), of(math.MaxUint64),
		sized(n, -1, 5), sized(n, math.MinInt64, 5),
		sized(n, 5, -1), sized(n, 5, api.MaxDatagram+1), sized(n, 5, math.MaxInt), sized(n, 5, math.MinInt),
		sized(api.MaxVar, -1, -1),
	} {
		q := p
		q.Asks = false
		l = append(l, p, q)
	}
	return l
}

func TestNewKeepsNothing(t *testing.T) {
	l, m := both(t)
	alike(t, "New", l, m)
	if p, ok := l.Take(0); ok || !nothing(p) || len(l.Clear()) != 0 || l.Next() != 0 {
		t.Errorf("P11.1: New keeps %v", p)
	}
	l.Add(of(0))
	if other := New(); other.Len() != 0 || other.Next() != 0 {
		t.Error("R2: two ledgers are one")
	}
}

func TestAddRefuses(t *testing.T) {
	for name, held := range map[string][]api.Packet{
		"nothing": nil, "one": {of(0)}, "some": {of(0), silent(1), of(2), of(9)}, "silent ones": {silent(4)}, "all": row(0, api.MaxSent),
	} {
		l, m := both(t, held...)
		for _, p := range wrongPackets(m.next) {
			if why := l.Add(p); why != api.ErrArg {
				t.Errorf("P11.1: Add of number %d, time %d, size %d behind %s: %v", p.Number, p.Time, p.Size, name, why)
			}
			alike(t, "refused behind "+name, l, m)
		}
		for n := range m.next {
			if l.Add(of(n)) != api.ErrArg || l.Add(silent(n)) != api.ErrArg {
				t.Errorf("P11.1: Add of %d, below Next, behind %s", n, name)
			}
			alike(t, "refused behind "+name, l, m)
		}
		ends(t, "refused behind "+name, l, m)
	}
}

func TestAddAtItsEdges(t *testing.T) {
	for _, p := range []api.Packet{
		of(0), of(1), of(1 << 40), of(api.MaxVar - 1), sized(0, 0, 0), sized(3, 0, api.MaxDatagram), sized(3, math.MaxInt64, 1), sized(7, 1<<40, 0),
		{Asks: true}, {Asks: true, Frames: []api.Frame{}},
	} {
		for _, p := range []api.Packet{p, {Number: p.Number, Time: p.Time, Size: p.Size, Frames: p.Frames}} {
			l, m := both(t, p)
			if l.Next() != p.Number+1 {
				t.Errorf("P11.1: Next behind %d: %d", p.Number, l.Next())
			}
			ends(t, "an edge", l, m)
		}
	}
	l, m := both(t, of(0), of(1), of(5), silent(6), of(api.MaxVar-1))
	for _, n := range []uint64{0, api.MaxVar - 1, api.MaxVar, api.MaxVar + 1} {
		if l.Add(of(n)) != api.ErrArg || l.Add(silent(n)) != api.ErrArg {
			t.Errorf("P11.1: Add of %d behind the greatest number", n)
		}
	}
	ends(t, "the greatest number", l, m)
}

func TestAddKeepsWhatAsksAlone(t *testing.T) {
	// What a packet says of itself counts, not what its frames are.
	ping, ack := api.Frame{Kind: api.Ping}, api.Frame{Kind: api.Ack, Ranges: rows(1, 2)}
	for _, asks := range []bool{false, true} {
		for _, frames := range [][]api.Frame{nil, {ping}, {ack}, {ack, ping}} {
			l, m := both(t, api.Packet{Number: 2, Time: 3, Size: 4, Asks: asks, Frames: frames})
			if kept := l.Len() == 1; kept != asks || l.Next() != 3 {
				t.Errorf("P11.1: a packet that asks: %t, of %v: kept %t, Next %d", asks, frames, kept, l.Next())
			}
			ends(t, "one packet", l, m)
		}
	}
}

func TestAddOfTooMany(t *testing.T) {
	makesRoom := map[string]func(l *Ledger, m *model){
		"Take": func(l *Ledger, m *model) { l.Take(7); m.take(7) },
		"Ack":  func(l *Ledger, m *model) { l.Ack(rows(0, 2)); m.ack(rows(0, 2)) },
		"lost": func(l *Ledger, m *model) { l.Ack(rows(64, 65)); m.ack(rows(64, 65)) },
		"Clear": func(l *Ledger, m *model) {
			l.Clear()
			m.drop(func(uint64) bool { return true })
		},
	}
	for name, makeRoom := range makesRoom {
		l, m := both(t, row(0, api.MaxSent)...)
		if l.Len() != 64 || l.Add(of(64)) != api.ErrFull || l.Add(of(1000)) != api.ErrFull {
			t.Fatalf("P11.1: %d kept, and one more", l.Len())
		}
		alike(t, "full", l, m)
		for n := range uint64(3) {
			if why := l.Add(silent(64 + n)); why != api.OK || m.add(silent(64+n)) != api.OK {
				t.Errorf("P11.1: one that does not ask, of a full ledger: %v", why)
			}
			if why := l.Add(of(65 + n)); why != api.ErrFull {
				t.Errorf("P11.1: one that asks, of a full ledger: %v", why)
			}
			alike(t, "full, and silent ones", l, m)
		}
		makeRoom(l, m)
		if why := l.Add(of(67)); why != api.OK || m.add(of(67)) != api.OK {
			t.Errorf("P11.1: room made by %s: %v", name, why)
		}
		for n := uint64(68); n < 200; n++ {
			if got, want := l.Add(of(n)), m.add(of(n)); got != want {
				t.Errorf("P11.1: %d, behind %s: %v, not %v", n, name, got, want)
			}
		}
		ends(t, "full, behind "+name, l, m)
	}
}

func TestAckRefuses(t *testing.T) {
	for _, c := range []struct {
		r    []api.Range
		want api.Errno
	}{
		{nil, api.ErrArg}, {[]api.Range{}, api.ErrArg}, {make([]api.Range, 0, 5), api.ErrArg},
		{rows(0, 0), api.ErrArg}, {rows(5, 5), api.ErrArg}, {rows(5, 4), api.ErrArg}, {rows(10, 10), api.ErrArg}, {rows(1, 0), api.ErrArg}, {rows(math.MaxUint64, 0), api.ErrArg},
		{rows(1, 2, 2, 3), api.ErrArg}, {rows(1, 3, 2, 4), api.ErrArg}, {rows(1, 9, 2, 4), api.ErrArg}, {rows(5, 6, 1, 2), api.ErrArg}, {rows(1, 2, 1, 2), api.ErrArg},
		{rows(1, 2, 4, 4), api.ErrArg}, {rows(1, 1, 4, 5), api.ErrArg}, {rows(1, 2, 4, 5, 5, 6), api.ErrArg}, {rows(1, 2, 4, 5, 0, 1), api.ErrArg}, {rows(4, 5, 1, 2, 7, 8), api.ErrArg}, {rows(0, 2, 1, 3, 7, 8), api.ErrArg},
		{rows(0, 11), api.ErrCorrupt}, {rows(10, 11), api.ErrCorrupt}, {rows(1, 2, 9, 11), api.ErrCorrupt}, {rows(11, 12), api.ErrCorrupt}, {rows(0, api.MaxVar), api.ErrCorrupt},
		{rows(0, math.MaxUint64), api.ErrCorrupt}, {rows(0, 1, 1<<63, math.MaxUint64), api.ErrCorrupt}, {rows(math.MaxUint64-1, math.MaxUint64), api.ErrCorrupt}, {rows(0, api.MaxVar+2), api.ErrCorrupt},
		// What may not be goes ahead of what was not sent.
		{rows(10, 11, 5, 6), api.ErrArg}, {rows(5, 6, 11, 11), api.ErrArg}, {rows(11, 13, 12, 14), api.ErrArg}, {rows(0, math.MaxUint64, 0, 1), api.ErrArg}, {rows(3, 3, 20, 30), api.ErrArg}, {rows(0, 1, 1, 20), api.ErrArg},
	} {
		for _, ahead := range [][]api.Range{nil, rows(5, 6)} {
			l, m := both(t, row(0, 10)...)
			if ahead != nil {
				l.Ack(ahead)
				m.ack(ahead)
			}
			got, lost, why := l.Ack(c.r)
			if why != c.want || len(got) != 0 || len(lost) != 0 {
				t.Errorf("P11.2: Ack(%v): %v, %v, %v, not %v", c.r, got, lost, why, c.want)
			}
			ends(t, "a refused Ack", l, m)
		}
	}
}

func TestAckOfWhatWasNotSent(t *testing.T) {
	l, m := both(t)
	for _, r := range [][]api.Range{rows(0, 1), rows(0, 5), rows(3, 4)} {
		if _, _, why := l.Ack(r); why != api.ErrCorrupt {
			t.Errorf("P11.2: Ack(%v) of nothing sent: %v", r, why)
		}
		alike(t, "nothing sent", l, m)
	}
	// Up to Next all is taken, a number that was passed over too.
	l, m = both(t, of(2), of(7))
	if _, _, why := l.Ack(rows(0, 8)); why != api.OK {
		t.Errorf("P11.2: Ack up to Next: %v", why)
	}
	l, m = both(t, of(2), of(7))
	if got, lost, why := l.Ack(rows(5, 6)); why != api.OK || len(got) != 0 || !slices.Equal(numbers(lost), []uint64{2}) {
		t.Errorf("P11.2: Ack of a number that was passed over: %v, %v, %v", numbers(got), numbers(lost), why)
	}
	m.ack(rows(5, 6))
	ends(t, "passed over", l, m)
	l, m = both(t, of(api.MaxVar-5), of(api.MaxVar-1))
	for _, end := range []uint64{api.MaxVar + 1, api.MaxVar + 2} {
		if _, _, why := l.Ack(rows(0, end)); why != api.ErrCorrupt {
			t.Errorf("P11.2: Ack up to %d: %v", end, why)
		}
	}
	got, lost, why := l.Ack(rows(api.MaxVar-1, api.MaxVar))
	if n, ok := l.Acked(); why != api.OK || len(got) != 1 || len(lost) != 1 || n != api.MaxVar-1 || !ok {
		t.Errorf("P11.2: Ack of the greatest number: %v, %v, %v, Acked %d", got, lost, why, n)
	}
}

func TestAckInARow(t *testing.T) {
	l, m := both(t, row(0, 12)...)
	for _, c := range []struct {
		r         []api.Range
		got, lost []uint64
		acked     uint64
	}{
		{rows(0, 1), []uint64{0}, nil, 0},
		{rows(0, 1), nil, nil, 0}, // the chapter's example: nothing the second time
		{rows(3, 4), []uint64{3}, nil, 3},
		{rows(4, 5), []uint64{4}, []uint64{1}, 4},
		{rows(1, 2), nil, nil, 4}, // lost is lost
		{rows(2, 3), []uint64{2}, nil, 4},
		{rows(6, 7, 8, 10), []uint64{6, 8, 9}, []uint64{5}, 9},
		{rows(0, 8), []uint64{7}, nil, 9},
		{rows(0, 12), []uint64{10, 11}, nil, 11},
		{rows(0, 12), nil, nil, 11},
		{rows(0, 1), nil, nil, 11},
	} {
		got, lost, why := l.Ack(c.r)
		m.ack(c.r)
		n, ok := l.Acked()
		if why != api.OK || !slices.Equal(numbers(got), c.got) || !slices.Equal(numbers(lost), c.lost) || n != c.acked || !ok {
			t.Errorf("P11.2: Ack(%v): %v, %v, %v, Acked %d", c.r, numbers(got), numbers(lost), why, n)
		}
		alike(t, "Ack in a row", l, m)
	}
	ends(t, "Ack in a row", l, m)
}

func TestLost(t *testing.T) {
	l, m := both(t, row(0, 5)...)
	got, lost, why := l.Ack(rows(4, 5)) // the chapter's run
	m.ack(rows(4, 5))
	if why != api.OK || !slices.Equal(numbers(got), []uint64{4}) || !slices.Equal(numbers(lost), []uint64{0, 1}) {
		t.Errorf("P11.2: Ack(4) of 0 to 4: %v, lost %v, %v", numbers(got), numbers(lost), why)
	}
	ends(t, "the chapter's run", l, m)
	for n := range uint64(5) {
		l, _ := both(t, of(0), silent(n+1))
		_, lost, _ := l.Ack(rows(n+1, n+2))
		if is := len(lost) == 1; is != (n+1 >= 3) {
			t.Errorf("P11.2: 0, as %d was acknowledged: lost %t", n+1, is)
		}
	}
	// What is acknowledged is not lost, however far it lies back.
	l, _ = both(t, row(0, 20)...)
	got, lost, _ = l.Ack(rows(0, 3, 5, 6, 19, 20))
	if !slices.Equal(numbers(got), []uint64{0, 1, 2, 5, 19}) || !slices.Equal(numbers(lost), []uint64{3, 4, 6, 7, 8, 9, 10, 11, 12, 13, 14, 15, 16}) {
		t.Errorf("P11.2: %v, lost %v", numbers(got), numbers(lost))
	}
	for i, p := range append(got, lost...) {
		if !same(p, of(p.Number)) {
			t.Errorf("P11.2: packet %d of Ack: %v", i, p)
		}
	}
}

func TestAckOfManyRanges(t *testing.T) {
	// As many as all that may be kept, and a lot between and ahead of which nothing is kept: MaxRanges is no bound here.
	for _, step := range []uint64{2, 6, 2000} {
		l, m := both(t, silent(0))
		var r []api.Range
		for i := range uint64(api.MaxSent) {
			p := of(step*i + step/2)
			l.Add(p)
			m.add(p)
		}
		for n := uint64(1); n < m.next; n += 2 {
			r = append(r, api.Range{Lo: n, Hi: n + 1})
		}
		got, lost, why := l.Ack(r)
		a, b := m.ack(r)
		if why != api.OK || !slices.EqualFunc(got, a, same) || !slices.EqualFunc(lost, b, same) || len(got)+len(lost) < api.MaxSent-3 {
			t.Errorf("P11.2: Ack of %d ranges: %v, lost %v, %v", len(r), numbers(got), numbers(lost), why)
		}
		ends(t, "many ranges", l, m)
	}
}

// asRanges are the numbers from base on whose bit is set, as rising ranges that do not touch.
func asRanges(base uint64, set int) []api.Range {
	var out []api.Range
	for i := range wide {
		n := base + uint64(i)
		switch {
		case set>>i&1 == 0:
		case i > 0 && set>>(i-1)&1 == 1:
			out[len(out)-1].Hi = n + 1
		default:
			out = append(out, api.Range{Lo: n, Hi: n + 1})
		}
	}
	return out
}

// mixed are packets of the numbers from base on; how's digits by 3 tell of each whether it is passed over, silent, or asks.
func mixed(base uint64, how int) []api.Packet {
	var l []api.Packet
	for i := range uint64(wide) {
		switch how % 3 {
		case 1:
			l = append(l, silent(base+i))
		case 2:
			l = append(l, of(base+i))
		}
		how /= 3
	}
	return l
}

func TestEveryAckOfSmallLedgers(t *testing.T) {
	for _, base := range []uint64{0, 1 << 40, api.MaxVar - wide} {
		for how := range 3 * 3 * 3 * 3 * 3 * 3 {
			packets := mixed(base, how)
			for set := 1; set < 1<<wide; set++ {
				r := asRanges(base, set)
				l, m := both(t, packets...)
				got, lost, why := l.Ack(r)
				if r[len(r)-1].Hi > m.next {
					if why != api.ErrCorrupt || len(got)+len(lost) != 0 {
						t.Fatalf("P11.2: Ack(%v), Next %d: %v", r, m.next, why)
					}
				} else if a, b := m.ack(r); why != api.OK || !slices.EqualFunc(got, a, same) || !slices.EqualFunc(lost, b, same) {
					t.Fatalf("P11.2: Ack(%v) of %v: %v, lost %v, %v", r, numbers(packets), numbers(got), numbers(lost), why)
				}
				ends(t, "an Ack", l, m)
			}
		}
	}
}

func TestTake(t *testing.T) {
	l, m := both(t, of(0), of(1), silent(2), of(5), of(api.MaxVar-1))
	for _, n := range []uint64{2, 3, 4, 6, api.MaxVar - 2, api.MaxVar, api.MaxVar + 1, 1 << 63, math.MaxUint64} {
		if p, ok := l.Take(n); ok || !nothing(p) {
			t.Errorf("P11.2: Take(%d), which is not kept: %v", n, p)
		}
		alike(t, "Take of none", l, m)
	}
	for _, n := range []uint64{1, api.MaxVar - 1, 0, 5} {
		p, ok := l.Take(n)
		if q, _ := m.take(n); !ok || !same(p, q) {
			t.Errorf("P11.2: Take(%d): %v, %t", n, p, ok)
		}
		alike(t, "Take", l, m)
		if p, ok := l.Take(n); ok || !nothing(p) {
			t.Errorf("P11.2: Take(%d) twice: %v", n, p)
		}
		alike(t, "Take twice", l, m)
	}
	ends(t, "all taken", l, m)
	// What is taken is neither acknowledged nor lost any more.
	l, _ = both(t, row(0, 6)...)
	l.Take(0)
	l.Take(5)
	got, lost, why := l.Ack(rows(5, 6))
	if why != api.OK || len(got) != 0 || !slices.Equal(numbers(lost), []uint64{1, 2}) {
		t.Errorf("P11.2: Ack behind Take: %v, lost %v, %v", numbers(got), numbers(lost), why)
	}
}

func TestClearKeepsNumbers(t *testing.T) {
	l, m := both(t, row(0, 9)...)
	l.Ack(rows(2, 3))
	m.ack(rows(2, 3))
	ends(t, "some acknowledged", l, m)
	if len(l.Clear()) != 0 || l.Next() != 9 {
		t.Errorf("P11.2: Clear twice, Next %d", l.Next())
	}
	if n, ok := l.Acked(); n != 2 || !ok {
		t.Errorf("P11.2: Acked behind Clear: %d, %t", n, ok)
	}
	if got, lost, why := l.Ack(rows(0, 9)); why != api.OK || len(got)+len(lost) != 0 {
		t.Errorf("P11.2: Ack behind Clear: %v, %v, %v", got, lost, why)
	}
	if l.Add(of(8)) != api.ErrArg || l.Add(of(9)) != api.OK || l.Len() != 1 {
		t.Error("P11.1: Add behind Clear")
	}
}

func TestManyCallsInARow(t *testing.T) {
	q := rand.New(rand.NewSource(11))
	for _, base := range []uint64{0, 1 << 50} {
		l, m := both(t, silent(base))
		for i := range 20000 {
			switch what := q.Intn(20); {
			case what < 12:
				p := sized(m.next+uint64(q.Intn(3)), int64(i), q.Intn(513))
				p.Asks = q.Intn(4) > 0
				if got, want := l.Add(p), m.add(p); got != want {
					t.Fatalf("P11.1: Add of %d: %v, not %v", p.Number, got, want)
				}
			case what < 16:
				n := m.next - uint64(q.Intn(30))
				p, ok := l.Take(n)
				if want, is := m.take(n); ok != is || !same(p, want) {
					t.Fatalf("P11.2: Take(%d): %v, %t", n, p, ok)
				}
			case what < 19:
				back := uint64(q.Intn(80))
				r := asRanges(m.next-back-wide, 1+q.Intn(1<<wide-1))
				if m.next < base+90 {
					r = rows(base, base+1)
				}
				got, lost, why := l.Ack(r)
				if a, b := m.ack(r); why != api.OK || !slices.EqualFunc(got, a, same) || !slices.EqualFunc(lost, b, same) {
					t.Fatalf("P11.2: Ack(%v): %v, lost %v, %v", r, numbers(got), numbers(lost), why)
				}
			case q.Intn(20) == 0:
				ends(t, "in a row", l, m)
			}
			alike(t, "in a row", l, m)
		}
		ends(t, "in a row", l, m)
	}
}

// loaded is a packet of every kind of list that frames have, each with spare room.
func loaded(n uint64) api.Packet {
	text := append(make([]byte, 0, 20), "text"...)
	list := append(make([]api.Range, 0, 5), rows(1, 2, 5, 7)...)
	frames := append(make([]api.Frame, 0, 9),
		api.Frame{Kind: api.Stream, Stream: 4, Offset: 7, Data: text, Fin: true}, api.Frame{Kind: api.Crypto, Data: text},
		api.Frame{Kind: api.Ack, Delay: 3, Ranges: list}, api.Frame{Kind: api.Ack, Ranges: list}, api.Frame{Kind: api.Close, Code: 1, Data: text[:2]},
	)
	return api.Packet{Number: n, Time: 9, Size: 99, Asks: true, Frames: frames}
}

// spoil writes over all that p's lists hold, their spare room too.
func spoil(p api.Packet) {
	l := p.Frames[:cap(p.Frames)]
	for i, f := range l {
		for j := range f.Data[:cap(f.Data)] {
			f.Data[:cap(f.Data)][j] = '!'
		}
		for j := range f.Ranges[:cap(f.Ranges)] {
			f.Ranges[:cap(f.Ranges)][j] = api.Range{Lo: 77, Hi: 7}
		}
		l[i] = api.Frame{Kind: api.Done}
	}
}

func TestWhatIsHandedInIsNotKept(t *testing.T) {
	l, m := both(t)
	p := loaded(0)
	l.Add(p)
	m.add(loaded(0))
	if !reflect.DeepEqual(p, loaded(0)) {
		t.Errorf("R2: Add changed what it was given: %v", p)
	}
	room := p.Frames[:cap(p.Frames)]
	if !reflect.DeepEqual(room[5:], make([]api.Frame, 4)) || !bytes.Equal(p.Frames[0].Data[:20][4:], make([]byte, 16)) {
		t.Error("R5: Add wrote to spare room")
	}
	spoil(p)
	ends(t, "what was added is changed", l, m)
	r := append(make([]api.Range, 0, 4), rows(0, 1, 4, 5)...)
	l, m = both(t, row(0, 9)...)
	l.Ack(r)
	m.ack(rows(0, 1, 4, 5))
	if !slices.Equal(r[:4], []api.Range{{Lo: 0, Hi: 1}, {Lo: 4, Hi: 5}, {}, {}}) {
		t.Errorf("R2: Ack changed what it was given: %v", r[:4])
	}
	r[0], r[1] = api.Range{Lo: 0, Hi: 9}, api.Range{Lo: 0, Hi: 9}
	ends(t, "what was acknowledged is changed", l, m)
}

func TestWhatIsAnsweredIsNewMemory(t *testing.T) {
	for name, answer := range map[string]func(l *Ledger, m *model) []api.Packet{
		"Oldest": func(l *Ledger, m *model) []api.Packet { p, _ := l.Oldest(); return []api.Packet{p} },
		"Take":   func(l *Ledger, m *model) []api.Packet { p, _ := l.Take(1); m.take(1); return []api.Packet{p} },
		"Ack": func(l *Ledger, m *model) []api.Packet {
			got, lost, _ := l.Ack(rows(2, 3, 5, 6))
			m.ack(rows(2, 3, 5, 6))
			return append(got, lost...)
		},
		"Clear": func(l *Ledger, m *model) []api.Packet { m.drop(func(uint64) bool { return true }); return l.Clear() },
	} {
		l, m := both(t)
		for n := range uint64(8) {
			l.Add(loaded(n))
			m.add(loaded(n))
		}
		all := answer(l, m)
		for i, p := range all {
			if !same(p, loaded(p.Number)) {
				t.Errorf("P11.2: %s: packet %d: %v", name, i, p)
			}
			for _, f := range p.Frames {
				// One list's spare room may be none of another one's.
				_, _ = append(f.Data, "!!!!"...), append(f.Ranges, rows(70, 71)...)
			}
			for _, other := range all[i:] {
				if !same(other, loaded(other.Number)) {
					t.Errorf("R2: %s: two lists share memory", name)
				}
			}
			spoil(p)
		}
		// Behind an answer's end too: what is added later is kept elsewhere.
		later := append(all, loaded(80), loaded(81))
		l.Add(loaded(8))
		m.add(loaded(8))
		if later[len(all)].Number != 80 || later[len(all)+1].Number != 81 {
			t.Errorf("R2: %s: its spare room is written to", name)
		}
		ends(t, "written to what "+name+" answered", l, m)
	}
}

func TestAnswersDoNotChangeLater(t *testing.T) {
	l, _ := both(t, row(0, 8)...)
	oldest, _ := l.Oldest()
	taken, _ := l.Take(3)
	got, lost, _ := l.Ack(rows(4, 5))
	all := l.Clear()
	for n := uint64(8); n < 40; n++ {
		l.Add(loaded(n))
	}
	l.Ack(rows(10, 12))
	l.Take(13)
	l.Clear()
	if !same(oldest, of(0)) || !same(taken, of(3)) || !slices.EqualFunc(got, row(4, 5), same) || !slices.EqualFunc(lost, row(0, 2), same) {
		t.Errorf("R2: %v, %v, %v, %v", oldest, taken, got, lost)
	}
	if !slices.EqualFunc(all, []api.Packet{of(2), of(5), of(6), of(7)}, same) {
		t.Errorf("R2: Clear: %v", all)
	}
}

func TestFramesAreKeptAsTheirKindAsks(t *testing.T) {
	full := api.Frame{
		Stream: 4, Offset: 70, Data: []byte("data"), Fin: true, Limit: 5, Code: 6, Final: 700, Seq: 8, Delay: 9,
		Ranges: rows(1, 3, 7, 8), CID: api.CID{1, 2, 3, 4, 5, 6, 7, 8},
	}
	p := of(0)
	p.Frames = nil
	var want []api.Frame
	// Kinds that are none of api's as well: Add does not ask what frames are.
	for kind := -1; kind < 33; kind++ {
		full.Kind = kind
		p.Frames = append(p.Frames, full)
		want = append(want, frame.Copy(full))
	}
	for name, answer := range map[string]func(l *Ledger) api.Packet{
		"Oldest": func(l *Ledger) api.Packet { p, _ := l.Oldest(); return p },
		"Take":   func(l *Ledger) api.Packet { p, _ := l.Take(0); return p },
		"Ack":    func(l *Ledger) api.Packet { got, _, _ := l.Ack(rows(0, 1)); return got[0] },
		"lost":   func(l *Ledger) api.Packet { l.Add(silent(3)); _, lost, _ := l.Ack(rows(3, 4)); return lost[0] },
		"Clear":  func(l *Ledger) api.Packet { return l.Clear()[0] },
	} {
		l, _ := both(t, p)
		if got := answer(l); !reflect.DeepEqual(got.Frames, want) {
			t.Errorf("P11.1: %s: frames %v, not %v", name, got.Frames, want)
		}
	}
}
