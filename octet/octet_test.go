package octet

import (
	"bytes"
	"math"
	"math/rand"
	"testing"

	"narthex/api"
	"narthex/bits"
)

// reads are every call that reads, each telling whether it answered zero.
func reads() map[string]func(r *Reader) bool {
	return map[string]func(r *Reader) bool{
		"Byte":          func(r *Reader) bool { return r.Byte() == 0 },
		"Two":           func(r *Reader) bool { return r.Two() == 0 },
		"Var":           func(r *Reader) bool { return r.Var() == 0 },
		"Raw(0)":        func(r *Reader) bool { return len(r.Raw(0)) == 0 },
		"Raw(1)":        func(r *Reader) bool { return len(r.Raw(1)) == 0 },
		"Raw(-1)":       func(r *Reader) bool { return len(r.Raw(-1)) == 0 },
		"Raw(greatest)": func(r *Reader) bool { return len(r.Raw(math.MaxInt)) == 0 },
		"Text":          func(r *Reader) bool { return len(r.Text()) == 0 },
	}
}

// staysBad tells of a reader that is bad: every call answers zero, and it is bad behind each.
func staysBad(t *testing.T, what string, r *Reader) {
	t.Helper()
	if !r.Bad() || r.Left() != 0 {
		t.Errorf("P2.2: %s: Bad %t, Left %d", what, r.Bad(), r.Left())
	}
	for name, read := range reads() {
		if !read(r) || !r.Bad() || r.Left() != 0 {
			t.Errorf("P2.2: %s: %s behind it is not zero, or not bad", what, name)
		}
	}
}

func TestEachCallWrites(t *testing.T) {
	for _, c := range []struct {
		name  string
		write func(w *Writer)
		want  string
	}{
		{"nothing", func(w *Writer) {}, ""},
		{"Byte(0)", func(w *Writer) { w.Byte(0) }, "\x00"},
		{"Byte(255)", func(w *Writer) { w.Byte(255) }, "\xff"},
		{"Two(0)", func(w *Writer) { w.Two(0) }, "\x00\x00"},
		{"Two(258)", func(w *Writer) { w.Two(258) }, "\x01\x02"},
		{"Two(255)", func(w *Writer) { w.Two(255) }, "\x00\xff"},
		{"Two(65535)", func(w *Writer) { w.Two(65535) }, "\xff\xff"},
		{"Raw(nil)", func(w *Writer) { w.Raw(nil) }, ""},
		{"Raw", func(w *Writer) { w.Raw([]byte("ab")) }, "ab"},
		{"Text(nil)", func(w *Writer) { w.Text(nil) }, "\x00"},
		{"Text of none", func(w *Writer) { w.Text([]byte{}) }, "\x00"},
		{"Text", func(w *Writer) { w.Text([]byte("cde")) }, "\x03cde"},
	} {
		w := New()
		w.Byte('<')
		c.write(w)
		w.Byte('>')
		if got := string(w.Done()); got != "<"+c.want+">" || w.Len() != len(got) {
			t.Errorf("P2.1: %s: %x, Len %d", c.name, got, w.Len())
		}
	}
}

func TestVarWritesAsPutVar(t *testing.T) {
	for _, c := range []struct {
		n    uint64
		want string
	}{
		{0, "\x00"}, {63, "\x3f"}, {64, "\x40\x40"}, {1<<14 - 1, "\x7f\xff"}, {1 << 14, "\x80\x00\x40\x00"},
		{494878333, "\x9d\x7f\x3e\x7d"}, {1<<30 - 1, "\xbf\xff\xff\xff"}, {1 << 30, "\xc0\x00\x00\x00\x40\x00\x00\x00"},
		{api.MaxVar, "\xff\xff\xff\xff\xff\xff\xff\xff"},
	} {
		w := New()
		w.Raw([]byte("ab"))
		if ok := w.Var(c.n); !ok || string(w.Done()) != "ab"+c.want || w.Len() != 2+len(c.want) {
			t.Errorf("P2.1: Var(%d): %t, %x", c.n, ok, w.Done())
		}
	}
}

func TestVarRefusesAboveMaxVar(t *testing.T) {
	for _, n := range []uint64{api.MaxVar + 1, 1 << 63, math.MaxUint64} {
		for _, ahead := range []string{"", "ahead"} {
			w := New()
			w.Raw([]byte(ahead))
			if w.Var(n) || w.Len() != len(ahead) || string(w.Done()) != ahead {
				t.Errorf("P2.1: Var(%d) behind %q: %x", n, ahead, w.Done())
			}
			w.Byte(1)
			if string(w.Done()) != ahead+"\x01" {
				t.Errorf("P2.1: behind a refused Var(%d): %x", n, w.Done())
			}
		}
	}
}

func TestTextTellsItsLengthAsAVar(t *testing.T) {
	for _, n := range []int{1, 63, 64, 100, 1<<14 - 1, 1 << 14, 70000} {
		b := bytes.Repeat([]byte{0xee}, n)
		w := New()
		w.Text(b)
		want, _ := bits.PutVar(nil, uint64(n))
		want = append(want, b...)
		if got := w.Done(); !bytes.Equal(got, want) {
			t.Errorf("P2.1: Text of %d bytes: %d bytes, %x ..", n, len(got), got[:min(len(got), 9)])
		}
		r := Of(want)
		if got := r.Text(); !bytes.Equal(got, b) || r.Left() != 0 || r.Bad() {
			t.Errorf("P2.2: Text of %d bytes is read as %d", n, len(got))
		}
	}
}

func TestDoneIsAllThatWasWritten(t *testing.T) {
	w := New()
	if w.Len() != 0 || len(w.Done()) != 0 {
		t.Errorf("P2.1: a new writer: %x", w.Done())
	}
	w.Two(258)
	if string(w.Done()) != "\x01\x02" || string(w.Done()) != "\x01\x02" || w.Len() != 2 {
		t.Errorf("P2.1: Done twice: %x", w.Done())
	}
	w.Byte(3)
	if string(w.Done()) != "\x01\x02\x03" {
		t.Errorf("P2.1: Done, and a Byte: %x", w.Done())
	}
	if other := New(); other.Len() != 0 {
		t.Errorf("P2.1: another writer has %x", other.Done())
	}
}

func TestWriterKeepsToItsOwnMemory(t *testing.T) {
	room := bytes.Repeat([]byte{0xaa}, 64)
	given := room[:3]
	w := New()
	w.Raw(given)
	w.Text(given)
	w.Byte(1)
	clear(room)
	first := w.Done()
	want := "\xaa\xaa\xaa\x03\xaa\xaa\xaa\x01"
	if string(first) != want {
		t.Errorf("R2: what was handed in is kept: %x", first)
	}
	if !bytes.Equal(room, make([]byte, 64)) {
		t.Errorf("R2: what was handed in is written to: %x", room)
	}
	second := w.Done()
	clear(first[:cap(first)])
	w.Byte(2)
	if string(second) != want || string(w.Done()) != want+"\x02" {
		t.Errorf("R2: answers share memory: %x, %x", second, w.Done())
	}
	third := w.Done()
	clear(second[:cap(second)])
	w.Byte(3)
	if string(third) != want+"\x02" || string(w.Done()) != want+"\x02\x03" {
		t.Errorf("R2: answers share their spare room: %x, %x", third, w.Done())
	}
}

func TestReading(t *testing.T) {
	r := Of([]byte("\x07\x01\x02\x40\x40ab\x03cde\x00z"))
	if got := r.Left(); got != 13 {
		t.Errorf("P2.2: Left of a new reader: %d", got)
	}
	if got := r.Byte(); got != 7 || r.Left() != 12 {
		t.Errorf("P2.2: Byte: %d, %d left", got, r.Left())
	}
	if got := r.Two(); got != 258 || r.Left() != 10 {
		t.Errorf("P2.2: Two: %d, %d left", got, r.Left())
	}
	if got := r.Var(); got != 64 || r.Left() != 8 {
		t.Errorf("P2.2: Var: %d, %d left", got, r.Left())
	}
	if got := r.Raw(2); string(got) != "ab" || r.Left() != 6 {
		t.Errorf("P2.2: Raw: %q, %d left", got, r.Left())
	}
	if got := r.Text(); string(got) != "cde" || r.Left() != 2 {
		t.Errorf("P2.2: Text: %q, %d left", got, r.Left())
	}
	if got := r.Text(); len(got) != 0 || r.Left() != 1 {
		t.Errorf("P2.2: an empty Text: %q, %d left", got, r.Left())
	}
	if got := r.Raw(1); string(got) != "z" || r.Left() != 0 || r.Bad() {
		t.Errorf("P2.2: the last byte: %q, %d left, Bad %t", got, r.Left(), r.Bad())
	}
}

func TestVarIsReadInWhicheverLength(t *testing.T) {
	for _, c := range []struct {
		b string
		n uint64
	}{
		{"\x25", 37}, {"\x40\x25", 37}, {"\x80\x00\x00\x25", 37}, {"\xc0\x00\x00\x00\x00\x00\x00\x25", 37},
		{"\x7f\xff", 1<<14 - 1}, {"\x9d\x7f\x3e\x7d", 494878333}, {"\xff\xff\xff\xff\xff\xff\xff\xff", api.MaxVar},
	} {
		r := Of([]byte(c.b + "z"))
		if n := r.Var(); n != c.n || r.Left() != 1 || r.Bad() {
			t.Errorf("P2.2: Var of %x: %d, %d left", c.b, n, r.Left())
		}
	}
	r := Of([]byte("\x40\x03cdez")) // a Text's length too
	if got := r.Text(); string(got) != "cde" || r.Left() != 1 || r.Bad() {
		t.Errorf("P2.2: Text of a long length: %q, %d left", got, r.Left())
	}
}

func TestRawOfNothingIsNotBad(t *testing.T) {
	for _, b := range [][]byte{nil, {}, {1, 2}} { // the chapter's example 1
		r := Of(b)
		if got := r.Raw(0); len(got) != 0 || r.Bad() || r.Left() != len(b) {
			t.Errorf("P2.2: Raw(0) of %x: %x, Bad %t, %d left", b, got, r.Bad(), r.Left())
		}
	}
	r := Of([]byte("ab"))
	if string(r.Raw(2)) != "ab" || len(r.Raw(0)) != 0 || r.Bad() || r.Left() != 0 {
		t.Error("P2.2: Raw(0) at the end")
	}
}

func TestBadWhereBytesLack(t *testing.T) {
	r := Of([]byte{9}) // the chapter's run
	if got := r.Two(); got != 0 || !r.Bad() {
		t.Errorf("P2.2: Two of one byte: %d, Bad %t", got, r.Bad())
	}
	for _, c := range []struct {
		name string
		b    string
		read func(r *Reader) bool
	}{
		{"Byte of nothing", "", func(r *Reader) bool { return r.Byte() == 0 }},
		{"Two of nothing", "", func(r *Reader) bool { return r.Two() == 0 }},
		{"Two of one byte", "\x09", func(r *Reader) bool { return r.Two() == 0 }},
		{"Var of nothing", "", func(r *Reader) bool { return r.Var() == 0 }},
		{"Var of one byte of two", "\x40", func(r *Reader) bool { return r.Var() == 0 }},
		{"Var of three bytes of four", "\x80\x01\x01", func(r *Reader) bool { return r.Var() == 0 }},
		{"Var of seven bytes of eight", "\xc0\x01\x01\x01\x01\x01\x01", func(r *Reader) bool { return r.Var() == 0 }},
		{"Raw of one more than is left", "abc", func(r *Reader) bool { return len(r.Raw(4)) == 0 }},
		{"Raw(1) of nothing", "", func(r *Reader) bool { return len(r.Raw(1)) == 0 }},
		{"Raw(-1)", "abc", func(r *Reader) bool { return len(r.Raw(-1)) == 0 }}, // the chapter's example 2
		{"Raw(-1) of nothing", "", func(r *Reader) bool { return len(r.Raw(-1)) == 0 }},
		{"Raw of the least", "abc", func(r *Reader) bool { return len(r.Raw(math.MinInt)) == 0 }},
		{"Raw of the greatest", "abc", func(r *Reader) bool { return len(r.Raw(math.MaxInt)) == 0 }},
		{"Text of nothing", "", func(r *Reader) bool { return len(r.Text()) == 0 }},
		{"Text, its length cut off", "\x80\x00", func(r *Reader) bool { return len(r.Text()) == 0 }},
		{"Text, its last byte cut off", "\x04abc", func(r *Reader) bool { return len(r.Text()) == 0 }},
		{"Text, nothing behind its length", "\x01", func(r *Reader) bool { return len(r.Text()) == 0 }},
		{"Text of a length above 2^31", "\xc0\x00\x00\x01\x00\x00\x00\x01z", func(r *Reader) bool { return len(r.Text()) == 0 }},
		{"Text of MaxVar bytes", "\xff\xff\xff\xff\xff\xff\xff\xffz", func(r *Reader) bool { return len(r.Text()) == 0 }},
	} {
		r := Of([]byte(c.b))
		if r.Bad() {
			t.Errorf("P2.2: %s: Bad ahead of it", c.name)
		}
		if !c.read(r) {
			t.Errorf("P2.2: %s: not zero", c.name)
		}
		staysBad(t, c.name, r)
	}
}

func TestBadNotByItsSpareRoom(t *testing.T) {
	room := []byte("\x01abcdefgh")
	for name, read := range reads() {
		if r := Of(room[:0]); !read(r) {
			t.Errorf("R5: %s reads what stands behind the length", name)
		}
	}
	if r := Of(room[:1]); len(r.Text()) != 0 || !r.Bad() {
		t.Error("R5: Text reads what stands behind the length")
	}
}

func TestReaderStaysBadThoughBytesWereLeft(t *testing.T) {
	for _, n := range []int{-1, 4, math.MaxInt} {
		r := Of([]byte("\x05\x06\x07"))
		r.Raw(n)
		staysBad(t, "Raw of what lacks", r)
	}
	r := Of([]byte("\x00\x01\x05ab"))
	if r.Two() != 1 || len(r.Text()) != 0 {
		t.Error("P2.2: Text behind Two")
	}
	staysBad(t, "a Text behind what was read", r)
}

func TestReadersAreByThemselves(t *testing.T) {
	b := []byte("\x01")
	bad, good := Of(b), Of(b)
	bad.Two()
	if good.Bad() || good.Left() != 1 || good.Byte() != 1 {
		t.Error("P2.2: one reader's badness is seen in another one")
	}
}

func TestReaderKeepsToItsOwnMemory(t *testing.T) {
	room := []byte("\x01\x02\x03\x02abcd")
	r := Of(room[:6])
	clear(room)
	raw := r.Raw(3)
	if string(raw) != "\x01\x02\x03" {
		t.Errorf("R2: what was handed in is kept: %x", raw)
	}
	clear(raw[:cap(raw)])
	text := r.Text()
	if string(text) != "ab" {
		t.Errorf("R2: Raw's answer is the reader's memory: %q", text)
	}
	if raw = append(raw, 1, 2, 3); string(text) != "ab" || !bytes.Equal(room, make([]byte, 8)) {
		t.Errorf("R2: two answers share memory: %x, %q, %x", raw, text, room)
	}
	given := []byte("abcdef")
	r = Of(given)
	x := r.Raw(6)
	clear(x[:cap(x)])
	if string(given) != "abcdef" {
		t.Errorf("R2: an answer is what was handed in: %q", given)
	}
}

func TestLongWritesAreNotCopiedEachTime(t *testing.T) {
	w := New()
	const n = 1 << 20
	for i := range uint64(n) {
		w.Var(i & 63)
	}
	if w.Len() != n {
		t.Fatalf("P2.1: %d bytes, not %d", w.Len(), n)
	}
	r := Of(w.Done())
	for i := range uint64(n) {
		if got := r.Var(); got != i&63 {
			t.Fatalf("P2.3: %d at %d", got, i)
		}
	}
}

// piece is one thing that is written, and is to be read.
type piece struct {
	kind int
	n    uint64
	b    []byte
}

const kinds = 5

func (p piece) write(w *Writer) {
	switch p.kind {
	case 0:
		w.Byte(byte(p.n))
	case 1:
		w.Two(uint16(p.n))
	case 2:
		w.Var(p.n)
	case 3:
		w.Raw(p.b)
	case 4:
		w.Text(p.b)
	}
}

// readBack is whether r gives the piece.
func (p piece) readBack(r *Reader) bool {
	switch p.kind {
	case 0:
		return r.Byte() == byte(p.n)
	case 1:
		return r.Two() == uint16(p.n)
	case 2:
		return r.Var() == p.n
	case 3:
		return bytes.Equal(r.Raw(len(p.b)), p.b)
	}
	return bytes.Equal(r.Text(), p.b)
}

// somePieces are pieces by a fixed seed; none of them is empty.
func somePieces(r *rand.Rand) []piece {
	l := make([]piece, r.Intn(20))
	for i := range l {
		b := make([]byte, 1+r.Intn(200))
		r.Read(b)
		l[i] = piece{r.Intn(kinds), r.Uint64() >> (2 + r.Intn(62)), b}
	}
	return l
}

func TestWhatWasWrittenIsRead(t *testing.T) {
	r := rand.New(rand.NewSource(2))
	for round := range 500 {
		l := somePieces(r)
		w := New()
		for _, p := range l {
			p.write(w)
		}
		in := Of(w.Done())
		if in.Left() != w.Len() {
			t.Fatalf("P2.3: round %d: %d left of %d", round, in.Left(), w.Len())
		}
		for i, p := range l {
			if !p.readBack(in) || in.Bad() {
				t.Fatalf("P2.3: round %d: piece %d of kind %d is not what was written", round, i, p.kind)
			}
		}
		if in.Left() != 0 || in.Bad() {
			t.Fatalf("P2.3: round %d: %d left, Bad %t", round, in.Left(), in.Bad())
		}
	}
}

func TestWhatIsCutOffIsBad(t *testing.T) {
	r := rand.New(rand.NewSource(3))
	for range 100 {
		l := somePieces(r)
		w := New()
		for _, p := range l {
			p.write(w)
		}
		if w.Len() == 0 {
			continue
		}
		in := Of(w.Done()[:r.Intn(w.Len())])
		for _, p := range l {
			p.readBack(in)
		}
		staysBad(t, "what is cut off", in)
	}
}
