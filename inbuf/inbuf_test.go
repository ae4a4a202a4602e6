package inbuf

import (
	"bytes"
	"math"
	"math/rand"
	"testing"

	"narthex/api"
)

// piece is one thing that a buffer is told: bytes that come, or, with take, that most of them are taken.
type piece struct {
	off  uint64
	data string
	fin  bool
	take bool
	most int
}

// model is a buffer by the chapter's words: every byte that ever came is kept by its offset, and all is gone through byte by byte.
type model struct {
	came                 map[uint64]byte
	read, highest, final uint64
	known                bool
}

// fresh is a model of nothing.
func fresh() *model { return &model{came: map[uint64]byte{}} }

// add is P14.1.
func (m *model) add(p piece) api.Errno {
	if p.off > 1099511627776 || len(p.data) > 512 {
		return api.ErrArg
	}
	end := p.off + uint64(len(p.data))
	switch {
	case m.known && end > m.final:
		return api.ErrFinal
	case m.known && p.fin && end != m.final:
		return api.ErrFinal
	case p.fin && end < m.highest:
		return api.ErrFinal
	case end > m.read+2048:
		return api.ErrOver
	}
	for i := range len(p.data) {
		if _, ok := m.came[p.off+uint64(i)]; !ok {
			m.came[p.off+uint64(i)] = p.data[i]
		}
	}
	if end > m.highest {
		m.highest = end
	}
	if p.fin {
		m.final, m.known = end, true
	}
	return api.OK
}

// row is the bytes from read on that are there without a gap, most of them at most.
func (m *model) row(most int) []byte {
	var out []byte
	for n := m.read; len(out) < most; n++ {
		c, ok := m.came[n]
		if !ok {
			break
		}
		out = append(out, c)
	}
	return out
}

// take is P14.2's Take.
func (m *model) take(most int) ([]byte, bool) {
	out := m.row(most)
	m.read += uint64(len(out))
	return out, m.known && m.read == m.final
}

// whole is P14.2's Whole; all below read came.
func (m *model) whole() bool {
	for n := m.read; n < m.final; n++ {
		if _, ok := m.came[n]; !ok {
			return false
		}
	}
	return m.known
}

// alike holds every answer of b that changes nothing against the model's, and that b keeps within its bounds.
func alike(t *testing.T, b *Buffer, m *model, behind any) {
	t.Helper()
	final, known := b.Final()
	if b.Read() != m.read || b.Highest() != m.highest || final != m.final || known != m.known {
		t.Fatalf("P14.1: behind %+v: Read %d, Highest %d, Final %d, %v, want %d, %d, %d, %v", behind, b.Read(), b.Highest(), final, known, m.read, m.highest, m.final, m.known)
	}
	if ready, whole := len(m.row(math.MaxInt)), m.whole(); b.Ready() != ready || b.Whole() != whole {
		t.Fatalf("P14.2: behind %+v: Ready %d, Whole %v, want %d, %v", behind, b.Ready(), b.Whole(), ready, whole)
	}
	if len(b.waits) > api.MaxBuffer || cap(b.waits) > 2*api.MaxBuffer || b.come.Len() > api.MaxBuffer/2 {
		t.Fatalf("W3: behind %+v: %d bytes in room for %d, %d ranges", behind, len(b.waits), cap(b.waits), b.come.Len())
	}
}

// tell tells both of p and holds their answers against each other.
func tell(t *testing.T, b *Buffer, m *model, p piece) {
	t.Helper()
	if p.take {
		want, ends := m.take(p.most)
		if got, end := b.Take(p.most); !bytes.Equal(got, want) || end != ends {
			t.Fatalf("P14.2: Take(%d): %q, %v, want %q, %v", p.most, got, end, want, ends)
		}
		return
	}
	want := m.add(p)
	if why := b.Add(p.off, []byte(p.data), p.fin); why != want {
		t.Fatalf("P14.1: Add(%d, %q, %v): %v, want %v", p.off, p.data, p.fin, why, want)
	}
}

// run tells a new buffer and a new model of l, and holds them against each other behind each step.
func run(t *testing.T, l ...piece) (*Buffer, *model) {
	t.Helper()
	b, m := New(), fresh()
	alike(t, b, m, nil)
	for i, p := range l {
		tell(t, b, m, p)
		alike(t, b, m, l[:i+1])
	}
	return b, m
}

// at is a piece that comes.
func at(off uint64, data string) piece { return piece{off: off, data: data} }

// last is one behind which the stream ends.
func last(off uint64, data string) piece { return piece{off: off, data: data, fin: true} }

// take is that most bytes are taken.
func take(most int) piece { return piece{take: true, most: most} }

// long is n bytes, none like its neighbours, and other ones for another from.
func long(n, from int) string {
	b := make([]byte, n)
	for i := range b {
		b[i] = byte((from + i) % 251)
	}
	return string(b)
}

// full is the pieces that fill a buffer from off on.
func full(off uint64) []piece {
	var l []piece
	for k := range uint64(4) {
		l = append(l, at(off+512*k, long(512, int(off+512*k))))
	}
	return l
}

func TestRun(t *testing.T) {
	b := New()
	if b.Add(2, []byte("cd"), false) != api.OK || b.Add(0, []byte("ab"), false) != api.OK {
		t.Fatal("P14.1: the run: refused")
	}
	if x, end := b.Take(9); string(x) != "abcd" || end {
		t.Errorf("P14.2: the run: %q, %v", x, end)
	}
	b = New()
	if b.Add(0, []byte("x"), true) != api.OK || b.Add(1, []byte("y"), false) != api.ErrFinal {
		t.Error("P14.1: example 1")
	}
	if x, end := New().Take(9); len(x) != 0 || end {
		t.Errorf("P14.2: example 2: %q, %v", x, end)
	}
}

// TestRefusals holds refusals and their order against rows that were worked out by hand.
func TestRefusals(t *testing.T) {
	none := []piece{}
	for i, c := range []struct {
		ahead []piece
		p     piece
		want  api.Errno
	}{
		// ErrArg, ahead of all others.
		{none, at(1<<40, ""), api.ErrOver},
		{none, at(1<<40+1, ""), api.ErrArg},
		{none, at(1<<62, "a"), api.ErrArg},
		{none, at(math.MaxUint64, ""), api.ErrArg},
		{none, at(math.MaxUint64, "ab"), api.ErrArg},
		{none, last(math.MaxUint64-511, long(512, 0)), api.ErrArg},
		{none, at(0, long(512, 0)), api.OK},
		{none, at(0, long(513, 0)), api.ErrArg},
		{none, at(5000, long(513, 0)), api.ErrArg},
		{none, at(0, long(5000, 0)), api.ErrArg},
		{[]piece{last(0, "a")}, at(0, long(513, 0)), api.ErrArg},
		{[]piece{last(0, "a")}, last(1<<40+1, ""), api.ErrArg},
		{full(0), last(0, long(513, 0)), api.ErrArg},
		// ErrFinal: above the end that is known.
		{[]piece{last(0, "abc")}, at(0, "abcd"), api.ErrFinal},
		{[]piece{last(0, "abc")}, at(3, "d"), api.ErrFinal},
		{[]piece{last(0, "abc")}, at(4, ""), api.ErrFinal},
		{[]piece{last(0, "abc")}, at(3, ""), api.OK},
		{[]piece{last(0, "abc")}, at(2, "x"), api.OK},
		{[]piece{last(0, "abc")}, at(0, ""), api.OK},
		{[]piece{last(0, "")}, at(0, ""), api.OK},
		{[]piece{last(0, "")}, last(0, ""), api.OK},
		{[]piece{last(0, "")}, at(0, "a"), api.ErrFinal},
		{[]piece{last(0, "")}, last(0, "a"), api.ErrFinal},
		// ErrFinal: another end than that which is known.
		{[]piece{last(0, "abc")}, last(0, "abc"), api.OK},
		{[]piece{last(0, "abc")}, last(3, ""), api.OK},
		{[]piece{last(0, "abc")}, last(2, "c"), api.OK},
		{[]piece{last(0, "abc")}, last(0, "ab"), api.ErrFinal},
		{[]piece{last(0, "abc")}, last(2, ""), api.ErrFinal},
		{[]piece{last(0, "abc")}, last(0, "abcd"), api.ErrFinal},
		{[]piece{last(5, "")}, last(2, "ab"), api.ErrFinal},
		{[]piece{last(5, "")}, last(0, ""), api.ErrFinal},
		{[]piece{last(5, "")}, last(2, "abc"), api.OK},
		// ErrFinal: an end below what came, taken or not.
		{[]piece{at(0, "abc")}, last(0, "ab"), api.ErrFinal},
		{[]piece{at(0, "abc")}, last(2, ""), api.ErrFinal},
		{[]piece{at(0, "abc")}, last(0, ""), api.ErrFinal},
		{[]piece{at(0, "abc")}, last(3, ""), api.OK},
		{[]piece{at(0, "abc")}, last(0, "abc"), api.OK},
		{[]piece{at(0, "abc")}, last(4, ""), api.OK},
		{[]piece{at(9, "")}, last(8, ""), api.ErrFinal},
		{[]piece{at(9, "")}, last(9, ""), api.OK},
		{[]piece{at(0, "abc"), take(3)}, last(2, ""), api.ErrFinal},
		{[]piece{at(0, "abc"), take(3)}, last(3, ""), api.OK},
		// ErrFinal goes ahead of ErrOver.
		{[]piece{last(0, "abc")}, at(5000, ""), api.ErrFinal},
		{[]piece{last(0, "abc")}, last(1<<40, long(512, 0)), api.ErrFinal},
		{[]piece{last(0, "abc"), take(3)}, at(2052, ""), api.ErrFinal},
		{[]piece{at(0, "abc")}, last(5000, ""), api.ErrOver},
		// ErrOver: above what may wait, which moves with what is taken.
		{none, at(2048, ""), api.OK},
		{none, at(2049, ""), api.ErrOver},
		{none, at(2047, "a"), api.OK},
		{none, at(2047, "ab"), api.ErrOver},
		{none, at(1536, long(512, 0)), api.OK},
		{none, at(1537, long(512, 0)), api.ErrOver},
		{none, last(2048, ""), api.OK},
		{none, last(2049, ""), api.ErrOver},
		{full(0), at(2048, "a"), api.ErrOver},
		{full(0), at(2048, ""), api.OK},
		{full(0), at(2047, "a"), api.OK},
		{[]piece{at(0, "abc")}, at(2050, ""), api.ErrOver},
		{[]piece{at(0, "abc"), take(2)}, at(2050, ""), api.OK},
		{[]piece{at(0, "abc"), take(2)}, at(2049, "x"), api.OK},
		{[]piece{at(0, "abc"), take(2)}, at(2050, "x"), api.ErrOver},
		{[]piece{at(0, "abc"), take(2)}, last(2051, ""), api.ErrOver},
		// Below what was taken all may come again.
		{[]piece{at(0, "abc"), take(2)}, at(0, "abc"), api.OK},
		{[]piece{at(0, "abc"), take(2)}, at(0, "zzzz"), api.OK},
		{[]piece{at(0, "abc"), take(3)}, at(0, ""), api.OK},
	} {
		b, m := run(t, c.ahead...)
		if why := b.Add(c.p.off, []byte(c.p.data), c.p.fin); why != c.want {
			t.Errorf("P14.1: row %d: Add(%d, %d bytes, %v): %v, want %v", i, c.p.off, len(c.p.data), c.p.fin, why, c.want)
		}
		if c.want == api.OK {
			m.add(c.p)
		}
		alike(t, b, m, c)
		tell(t, b, m, take(9999))
		alike(t, b, m, c)
	}
}

// TestFirst asks that of a byte that comes twice the first stands, in pieces of every place and length.
func TestFirst(t *testing.T) {
	names := []string{"abcdefg", "ABCDEFG", "1234567"}
	cut := func(k, lo, hi int) piece { return at(uint64(lo), names[k][lo:hi]) }
	spans := [][2]int{}
	for lo := range 7 {
		for hi := lo; hi <= 7; hi++ {
			spans = append(spans, [2]int{lo, hi})
		}
	}
	for _, x := range spans {
		for _, y := range spans {
			for _, z := range spans {
				b, m := run(t, cut(0, x[0], x[1]), cut(1, y[0], y[1]), cut(2, z[0], z[1]))
				tell(t, b, m, take(9))
				tell(t, b, m, cut(2, 0, 7))
				tell(t, b, m, take(9))
				alike(t, b, m, [][2]int{x, y, z})
			}
		}
	}
}

// TestAll holds every row of three steps out of all small ones, and what is taken behind it.
func TestAll(t *testing.T) {
	var few []piece
	for off := range uint64(5) {
		for n := range 3 {
			few = append(few, at(off, long(n, 0)), last(off, long(n, 0)))
		}
	}
	few = append(few, at(0, "wxyz"), last(0, "wxyz"), take(-1), take(0), take(1), take(2), take(9))
	var walk func(l []piece)
	walk = func(l []piece) {
		b, m := New(), fresh()
		for i, p := range l {
			// Each step brings bytes of its own.
			if !p.take {
				p.data = string(bytes.Map(func(r rune) rune { return 'a' + (r+rune(7*i))%26 }, []byte(p.data)))
			}
			tell(t, b, m, p)
		}
		alike(t, b, m, l)
		if len(l) == 3 {
			tell(t, b, m, take(3))
			alike(t, b, m, l)
			tell(t, b, m, take(9))
			alike(t, b, m, l)
			return
		}
		for _, p := range few {
			walk(append(l[:len(l):len(l)], p))
		}
	}
	walk(nil)
}

// TestMost asks Take for every number of bytes around those that are there.
func TestMost(t *testing.T) {
	for _, l := range [][]piece{nil, {at(0, "abc")}, {last(0, "abc")}, {at(0, "abc"), at(4, "e")}, {at(1, "b")}, {last(0, "")}, {last(3, "")}, append(full(0), last(2048, ""))} {
		for _, most := range []int{math.MinInt, -513, -1, 0, 1, 2, 3, 4, 5, 511, 512, 513, 2047, 2048, 2049, 1 << 32, math.MaxInt} {
			b, m := run(t, l...)
			tell(t, b, m, take(most))
			alike(t, b, m, []any{len(l), most})
			tell(t, b, m, take(most))
			alike(t, b, m, []any{len(l), most})
		}
	}
}

// TestEnd asks when Take tells the end: behind the last byte alone, and from then on.
func TestEnd(t *testing.T) {
	b := New()
	got := func(most int) string {
		x, end := b.Take(most)
		if end {
			return string(x) + "."
		}
		return string(x)
	}
	b.Add(0, []byte("ab"), false)
	if x := got(2); x != "ab" {
		t.Errorf("P14.2: Final is not known: %s", x)
	}
	b.Add(3, []byte("d"), true)
	if x := got(9); x != "" || b.Whole() {
		t.Errorf("P14.2: a byte lacks: %s, %v", x, b.Whole())
	}
	b.Add(2, []byte("c"), false)
	if x := got(0); x != "" || !b.Whole() {
		t.Errorf("P14.2: nothing is taken: %s, %v", x, b.Whole())
	}
	if x := got(1); x != "c" {
		t.Errorf("P14.2: ahead of the end: %s", x)
	}
	if x := got(1); x != "d." {
		t.Errorf("P14.2: the end: %s", x)
	}
	for _, most := range []int{-1, 0, 1, math.MaxInt} {
		if x := got(most); x != "." || !b.Whole() {
			t.Errorf("P14.2: behind the end: Take(%d): %s, %v", most, x, b.Whole())
		}
	}
	// All was taken ahead of it being known that it was all.
	b = New()
	b.Add(0, []byte("ab"), false)
	if x := got(5); x != "ab" || b.Whole() {
		t.Errorf("P14.2: Final is not known: %s, %v", x, b.Whole())
	}
	b.Add(2, nil, true)
	if x := got(5); x != "." || !b.Whole() {
		t.Errorf("P14.2: the end of nothing more: %s, %v", x, b.Whole())
	}
}

// TestPieces asks for as many pieces apart from each other as there can be, and what lies between them: none is lost.
func TestPieces(t *testing.T) {
	for _, ahead := range []int{0, 1, 2, 777} {
		for _, first := range []int{0, 1} {
			b, m := New(), fresh()
			for off := 0; off < ahead; off += 100 {
				tell(t, b, m, at(uint64(off), long(min(100, ahead-off), off)))
			}
			tell(t, b, m, take(ahead))
			for _, from := range []int{first, 1 - first} {
				// From behind, so that no piece touches one that came ahead of it.
				for off := ahead + 2046 + from; off >= ahead; off -= 2 {
					tell(t, b, m, at(uint64(off), long(1, off)))
				}
				alike(t, b, m, []int{ahead, first, from})
			}
			if b.Ready() != 2048 {
				t.Errorf("P14.3: pieces of a byte, from %d on, behind %d: Ready %d", first, ahead, b.Ready())
			}
			if x, _ := b.Take(9999); string(x) != long(2048, ahead) {
				t.Errorf("P14.3: pieces of a byte, from %d on, behind %d: %q", first, ahead, x)
			}
		}
	}
	// And one byte taken behind each that comes.
	b, m := run(t)
	for off := 2047; off > 0; off -= 2 {
		tell(t, b, m, at(uint64(off), long(1, off)))
	}
	for off := uint64(0); off < 2048; off += 2 {
		tell(t, b, m, at(off, long(1, int(off))))
		tell(t, b, m, take(1))
		tell(t, b, m, at(off+2048, long(1, int(off+2048))))
		alike(t, b, m, off)
		tell(t, b, m, take(1))
		tell(t, b, m, at(off+2049, ""))
		alike(t, b, m, off)
	}
}

// TestOrders brings the pieces of a text in every order, and takes by unlike steps between them.
func TestOrders(t *testing.T) {
	const text = "abcdefghijkl"
	pieces := []piece{at(0, "abc"), at(2, "cd"), at(4, "efg"), at(5, "fghij"), at(9, "jkl"), last(11, "l"), last(12, "")}
	var walk func(l []piece, left []piece)
	walk = func(l, left []piece) {
		for i := range left {
			rest := append(append([]piece{}, left[:i]...), left[i+1:]...)
			walk(append(l[:len(l):len(l)], left[i]), rest)
		}
		if len(left) > 0 {
			return
		}
		for _, most := range []int{0, 1, 2, 5, 99} {
			b := New()
			var got []byte
			end := false
			for _, p := range append(l[:len(l):len(l)], at(0, ""), at(0, "")) {
				if why := b.Add(p.off, []byte(p.data), p.fin); why != api.OK {
					t.Fatalf("P14.1: %v: %v", l, why)
				}
				var x []byte
				x, end = b.Take(most)
				got = append(got, x...)
				_, known := b.Final()
				if len(got) > len(text) || string(got) != text[:len(got)] || end != (known && len(got) == len(text)) {
					t.Fatalf("P14.3: %v by %d: %q, %v", l, most, got, end)
				}
			}
			x, end := b.Take(99)
			if string(append(got, x...)) != text || !end || !b.Whole() {
				t.Fatalf("P14.3: %v by %d: %q, and %q, %v, %v", l, most, got, x, end, b.Whole())
			}
		}
	}
	walk(nil, pieces)
}

// odd is a piece of any kind, mostly near what b waits for.
func odd(r *rand.Rand, m *model) piece {
	off := int(m.read) - 40 + r.Intn(2200)
	if r.Intn(3) > 0 {
		off = int(m.read) + len(m.row(4000)) - r.Intn(4)
	}
	n := r.Intn(20)
	if r.Intn(3) == 0 {
		n = r.Intn(516)
	}
	p := at(uint64(max(off, 0)), long(n, r.Intn(999)))
	if r.Intn(60) == 0 {
		p.off = []uint64{0, m.highest, m.read + 2048, m.read + 2049, 1 << 40, 1<<40 + 1, math.MaxUint64}[r.Intn(7)]
	}
	p.fin = r.Intn(150) == 0
	if r.Intn(4) == 0 {
		p = take(r.Intn(700) - 3)
	}
	return p
}

// TestRows holds long rows of steps of all kinds, step by step; the bytes that come at one offset are not the same ones.
func TestRows(t *testing.T) {
	r := rand.New(rand.NewSource(14))
	for round := range 150 {
		b, m := New(), fresh()
		for range 400 {
			p := odd(r, m)
			tell(t, b, m, p)
			alike(t, b, m, []any{round, p.off, len(p.data), p.fin, p.take, p.most})
		}
	}
}

// TestLong brings a text of many times what may wait, its pieces in any order, and twice.
func TestLong(t *testing.T) {
	r := rand.New(rand.NewSource(3))
	for round := range 10 {
		text := long(30000+r.Intn(500), round)
		b := New()
		got, end := "", false
		for step := 0; !end; step++ {
			if step > 100000 {
				t.Fatalf("P14.3: round %d: no end behind %d", round, len(got))
			}
			off := max(0, len(got)-100+r.Intn(2300))
			if step%5 == 0 {
				off = len(got) + b.Ready()
			}
			off = min(off, len(text))
			n := r.Intn(min(512, len(text)-off) + 1)
			why := b.Add(uint64(off), []byte(text[off:off+n]), off+n == len(text))
			if over := off+n > len(got)+2048; why == api.OK == over || over && why != api.ErrOver {
				t.Fatalf("P14.1: round %d: %d bytes at %d, behind %d: %v", round, n, off, len(got), why)
			}
			var x []byte
			x, end = b.Take(r.Intn(300))
			got += string(x)
			if got != text[:len(got)] || end != (len(got) == len(text)) {
				t.Fatalf("P14.3: round %d: %d of %d, %v", round, len(got), len(text), end)
			}
		}
	}
}

// TestMemory asks that what is handed in is neither kept nor changed, nor its spare room, and that no answer shares memory.
func TestMemory(t *testing.T) {
	b := New()
	row := []byte("..abcdef..")
	data := row[2:8]
	if b.Add(0, data, false) != api.OK || string(row) != "..abcdef.." {
		t.Fatalf("R2: Add: %s", row)
	}
	copy(row, "zzzzzzzzzz")
	x, _ := b.Take(2)
	y, _ := b.Take(2)
	if string(x) != "ab" || string(y) != "cd" {
		t.Fatalf("R2: what was handed in is kept: %s, %s", x, y)
	}
	spoil(x)
	if string(y) != "cd" {
		t.Errorf("R2: two answers share memory: %s", y)
	}
	spoil(y)
	if b.Add(4, []byte("EFgh"), false) != api.OK {
		t.Error("P14.1: refused")
	}
	z, _ := b.Take(9)
	if string(z) != "efgh" {
		t.Errorf("R2: an answer shares memory with the buffer: %s", z)
	}
	b.Add(8, []byte("ijklmnop"), false)
	spoil(z)
	if z, _ = b.Take(9); string(z) != "ijklmnop" {
		t.Errorf("R2: an answer shares memory with the buffer: %s", z)
	}
	// An answer of nothing too.
	b.Add(16, []byte("qr"), false)
	x, _ = b.Take(0)
	spoil(append(x, 'z'))
	if y, _ = b.Take(9); string(y) != "qr" {
		t.Errorf("R2: an answer shares memory with the buffer: %s", y)
	}
}

// spoil writes over all of x, its spare room too.
func spoil(x []byte) {
	x = x[:cap(x)]
	for i := range x {
		x[i] = '!'
	}
}

// TestAlone asks that no buffer sees what another one is told, and that asking changes nothing.
func TestAlone(t *testing.T) {
	a, n := run(t, at(0, "ab"), last(5, "f"))
	b, m := run(t, at(0, "xyz"), take(1))
	c, k := run(t)
	for range 3 {
		alike(t, a, n, "a")
		alike(t, b, m, "b")
		alike(t, c, k, "c")
	}
	tell(t, a, n, at(2, "cde"))
	tell(t, b, m, take(9))
	tell(t, c, k, last(0, ""))
	tell(t, a, n, take(9))
	for range 3 {
		alike(t, a, n, "a")
		alike(t, b, m, "b")
		alike(t, c, k, "c")
	}
}
