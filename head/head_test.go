package head

import (
	"bytes"
	"math"
	"math/rand"
	"reflect"
	"testing"

	"narthex/api"
	"narthex/bits"
)

func to() api.CID { return api.CID{1, 2, 3, 4, 5, 6, 7, 8} }

func from() api.CID { return api.CID{9, 8, 7, 6, 5, 4, 3, 2} }

// names are the two names of a long head, as they are written.
const names = "\x08\x01\x02\x03\x04\x05\x06\x07\x08" + "\x08\x09\x08\x07\x06\x05\x04\x03\x02"

const version = "\x00\x00\x00\x01"

// initial, handshake and data are Right heads of each space.
func initial(width int, token []byte) api.Head {
	return api.Head{Space: api.Initial, To: to(), From: from(), Token: token, Width: width}
}

func handshake(width int) api.Head {
	return api.Head{Space: api.Handshake, To: to(), From: from(), Width: width}
}

func data(width int, phase bool) api.Head {
	return api.Head{Space: api.Data, To: to(), Width: width, Phase: phase}
}

// token is n bytes, none of them zero.
func token(n int) []byte { return bytes.Repeat([]byte{0xee}, n) }

// rightHeads are heads of every space, width, phase and length of a token.
func rightHeads() []api.Head {
	var l []api.Head
	for width := 1; width <= 4; width++ {
		for n := range api.MaxToken + 1 {
			l = append(l, initial(width, token(n)))
		}
		l = append(l, handshake(width), data(width, false), data(width, true), api.Head{Width: width})
		l = append(l, api.Head{Space: api.Data, Width: width}, api.Head{Space: api.Handshake, Width: width})
	}
	return l
}

// wrongHeads are heads that are not Right, each by one fault.
func wrongHeads() []api.Head {
	var l []api.Head
	for _, width := range []int{math.MinInt, -1, 0, 5, 6, 8, 255, 256, 257, 1<<32 + 1, math.MaxInt} {
		l = append(l, initial(width, nil), handshake(width), data(width, false))
	}
	for _, space := range []int{math.MinInt, -2, -1, 3, 4, 5, 6, 255, 256, 257, 1 << 32, 1<<32 + 2, math.MaxInt} {
		l = append(l, api.Head{Space: space, To: to(), Width: 1})
	}
	for _, n := range []int{33, 34, 63, 64, 65, 256, 288, 1 << 16} {
		l = append(l, initial(1, token(n)))
	}
	for _, n := range []int{1, 2, 32, 33} {
		l = append(l, with(handshake(1), "Token", token(n)), with(data(1, false), "Token", token(n)))
	}
	for i := range nameLen {
		var c api.CID
		c[i] = 1
		l = append(l, with(data(1, false), "From", c))
	}
	return append(l, with(initial(1, nil), "Phase", true), with(handshake(1), "Phase", true))
}

// with is h with another value in that field.
func with(h api.Head, field string, x any) api.Head {
	reflect.ValueOf(&h).Elem().FieldByName(field).Set(reflect.ValueOf(x))
	return h
}

// same holds two heads against each other, nil and empty tokens alike.
func same(g, h api.Head) bool {
	return bytes.Equal(g.Token, h.Token) && g.Space == h.Space && g.To == h.To && g.From == h.From && g.Width == h.Width && g.Phase == h.Phase
}

// refused tells of bytes that Parse takes, or refuses otherwise than by ErrForm and zeros.
func refused(t *testing.T, what string, b []byte) {
	t.Helper()
	if h, at, end, why := Parse(b); why != api.ErrForm || !same(h, api.Head{}) || at != 0 || end != 0 {
		t.Errorf("P5.2: Parse: %s: %x: %+v, %d, %d, %v", what, b, h, at, end, why)
	}
	if c, ok := First(b); ok || c != (api.CID{}) {
		t.Errorf("P5.2: First: %s: %x: %v, %t", what, b, c, ok)
	}
}

// parsed tells of bytes that Parse does not take as that head, number's place and end.
func parsed(t *testing.T, what string, b []byte, want api.Head, at, end int) {
	t.Helper()
	if h, a, e, why := Parse(b); why != api.OK || !same(h, want) || a != at || e != end {
		t.Errorf("P5.2: Parse: %s: %x: %+v, %d, %d, %v", what, b, h, a, e, why)
	}
	if c, ok := First(b); !ok || c != want.To {
		t.Errorf("P5.2: First: %s: %x: %v, %t", what, b, c, ok)
	}
}

// behind is how many bytes are behind a head.
func behind(n int) string { return string(bytes.Repeat([]byte{0x5a}, n)) }

// variable is n as a Var of that many bytes, the shortest or not.
func variable(n uint64, size int) string {
	b := make([]byte, size)
	for i := range size {
		b[size-1-i] = byte(n >> (8 * i))
	}
	form := map[int]byte{1: 0, 2: 1, 4: 2, 8: 3}[size]
	b[0] |= form << 6
	return string(b)
}

func TestRight(t *testing.T) {
	for _, h := range rightHeads() {
		if !Right(h) {
			t.Errorf("P5.1: Right(%+v): false", h)
		}
	}
	for _, h := range wrongHeads() {
		if Right(h) {
			t.Errorf("P5.1: Right(%+v): true", h)
		}
	}
	for _, h := range []api.Head{with(handshake(1), "Token", []byte{}), with(data(1, true), "Token", []byte{}), initial(1, []byte{})} {
		if !Right(h) || Size(h) != Size(with(h, "Token", []byte(nil))) {
			t.Errorf("R4: Right(%+v): an empty Token is none", h)
		}
	}
}

func TestEncodeByHand(t *testing.T) {
	for _, c := range []struct {
		h    api.Head
		n    int
		want string
	}{
		{initial(1, nil), 1, "\xc0" + version + names + "\x00" + "\x40\x01"},
		{initial(2, []byte("ab")), 63, "\xc1" + version + names + "\x02ab" + "\x40\x3f"},
		{initial(3, token(32)), 64, "\xc2" + version + names + "\x20" + string(token(32)) + "\x40\x40"},
		{initial(4, nil), 16383, "\xc3" + version + names + "\x00" + "\x7f\xff"},
		{handshake(1), 255, "\xd0" + version + names + "\x40\xff"},
		{handshake(2), 256, "\xd1" + version + names + "\x41\x00"},
		{handshake(3), 3, "\xd2" + version + names + "\x40\x03"},
		{handshake(4), 4660, "\xd3" + version + names + "\x52\x34"},
		{data(1, false), 1, "\x40\x01\x02\x03\x04\x05\x06\x07\x08"},
		{data(2, false), 16383, "\x41\x01\x02\x03\x04\x05\x06\x07\x08"},
		{data(3, false), 20, "\x42\x01\x02\x03\x04\x05\x06\x07\x08"},
		{data(4, false), 20, "\x43\x01\x02\x03\x04\x05\x06\x07\x08"},
		{data(1, true), 20, "\x44\x01\x02\x03\x04\x05\x06\x07\x08"},
		{data(2, true), 20, "\x45\x01\x02\x03\x04\x05\x06\x07\x08"},
		{data(3, true), 20, "\x46\x01\x02\x03\x04\x05\x06\x07\x08"},
		{data(4, true), 20, "\x47\x01\x02\x03\x04\x05\x06\x07\x08"},
		{api.Head{Space: api.Data, Width: 1}, 20, "\x40\x00\x00\x00\x00\x00\x00\x00\x00"},
	} {
		b, why := Encode(c.h, c.n)
		if string(b) != c.want || why != api.OK {
			t.Errorf("P5.1: Encode(%+v, %d): %x, %v", c.h, c.n, b, why)
		}
		if got := Size(c.h); got != len(c.want) {
			t.Errorf("P5.1: Size(%+v): %d", c.h, got)
		}
	}
}

func TestEncodeRefuses(t *testing.T) {
	for _, h := range wrongHeads() {
		for _, n := range []int{math.MinInt, -1, 0, 1, 20, 16383, 16384, math.MaxInt} {
			if b, why := Encode(h, n); why != api.ErrArg || len(b) > 0 {
				t.Errorf("P5.1: Encode(%+v, %d): %x, %v", h, n, b, why)
			}
		}
		if got := Size(h); got != 0 {
			t.Errorf("P5.1: Size(%+v): %d", h, got)
		}
	}
	for _, h := range rightHeads() {
		for _, n := range []int{math.MinInt, -1, 0, h.Width - 1, 16384, 16385, 1 << 16, 1<<16 + 20, 1<<32 + 20, math.MaxInt} {
			if b, why := Encode(h, n); why != api.ErrArg || len(b) > 0 {
				t.Errorf("P5.1: Encode(%+v, %d): %x, %v", h, n, b, why)
			}
		}
		for _, n := range []int{h.Width, h.Width + 1, 63, 64, 16382, 16383} {
			if b, why := Encode(h, n); why != api.OK || len(b) != Size(h) {
				t.Errorf("P5.1: Encode(%+v, %d): %x, %v, Size %d", h, n, b, why, Size(h))
			}
		}
	}
}

// TestParseOfEncode holds P5.3 for every head, with bytes behind the packet and without, and tells where the least packet begins.
func TestParseOfEncode(t *testing.T) {
	for _, h := range rightHeads() {
		want := h
		want.Width, want.Phase = 1, false
		for _, n := range []int{12, 13, 63, 64, 300, 16383} {
			b, _ := Encode(h, n)
			at := len(b)
			b = append(b, behind(n)...)
			parsed(t, "P5.3", b, want, at, at+n)
			if h.Space == api.Data {
				parsed(t, "P5.3, bytes behind", append(b, "behind"...), want, at, at+n+6)
				continue
			}
			parsed(t, "P5.3, bytes behind", append(b, "behind"...), want, at, at+n)
			refused(t, "a byte lacks", b[:len(b)-1])
		}
		for n := h.Width; n < 12; n++ {
			b, _ := Encode(h, n)
			refused(t, "fewer than 12 behind the head", append(b, behind(n)...))
		}
	}
}

func TestParseRefusesEveryCut(t *testing.T) {
	for _, h := range rightHeads() {
		b, _ := Encode(h, 20)
		size := len(b)
		b = append(b, behind(20)...)
		least := size + 20
		if h.Space == api.Data {
			least = size + 12
		}
		for k := range least {
			refused(t, "cut", b[:k])
		}
		for k := least; k <= len(b); k++ {
			if _, at, end, why := Parse(b[:k]); why != api.OK || at != size || end != k {
				t.Errorf("P5.2: Parse, %d bytes of %x: %d, %d, %v", k, b, at, end, why)
			}
		}
	}
	refused(t, "nothing", nil)
	refused(t, "nothing", []byte{})
}

// TestParseFirstByte gives every first byte to bytes that are fit for the head that it begins.
func TestParseFirstByte(t *testing.T) {
	for first := range 256 {
		lead := string([]byte{byte(first)})
		short := []byte(lead + "\x01\x02\x03\x04\x05\x06\x07\x08" + behind(12))
		inits := []byte(lead + version + names + "\x00\x0c" + behind(12))
		hands := []byte(lead + version + names + "\x0c" + behind(12))
		switch {
		case first&64 == 0, first&128 != 0 && first&32 != 0:
			refused(t, "first byte", short)
			refused(t, "first byte", inits)
			refused(t, "first byte", hands)
		case first&128 == 0:
			parsed(t, "first byte", short, api.Head{Space: api.Data, To: to(), Width: 1}, 9, 21)
		case first&16 == 0:
			parsed(t, "first byte", inits, initial(1, nil), 25, 37)
		default:
			parsed(t, "first byte", hands, handshake(1), 24, 36)
		}
	}
}

func TestParseVersion(t *testing.T) {
	for _, other := range []string{"\x00\x00\x00\x00", "\x00\x00\x00\x02", "\x00\x00\x01\x01", "\x00\x01\x00\x01", "\x01\x00\x00\x01", "\x01\x00\x00\x00", "\xff\xff\xff\xff", "\x00\x01\x00\x00", "\x80\x00\x00\x01"} {
		refused(t, "Version", []byte("\xc0"+other+names+"\x00\x0c"+behind(12)))
		refused(t, "Version", []byte("\xd0"+other+names+"\x0c"+behind(12)))
	}
}

// TestParseNameLengths gives every other length of a name to bytes that would do for eight, and to bytes with so long a name.
func TestParseNameLengths(t *testing.T) {
	for n := range 256 {
		if n == 8 {
			continue
		}
		size := string([]byte{byte(n)})
		for _, lead := range []string{"\xc0", "\xd0"} {
			end := map[string]string{"\xc0": "\x00\x0c", "\xd0": "\x0c"}[lead] + behind(12)
			refused(t, "To", []byte(lead+version+size+names[1:]+end))
			refused(t, "From", []byte(lead+version+names[:9]+size+names[10:]+end))
			refused(t, "To so long", []byte(lead+version+size+behind(n)+names[9:]+end))
			refused(t, "From so long", []byte(lead+version+names[:9]+size+behind(n)+end))
		}
	}
}

func TestParseToken(t *testing.T) {
	ahead := "\xc0" + version + names
	for n := range 100 {
		for _, size := range []int{1, 2, 4, 8} {
			if n > 63 && size == 1 {
				continue
			}
			b := []byte(ahead + variable(uint64(n), size) + string(token(n)) + "\x0c" + behind(12))
			if n > api.MaxToken {
				refused(t, "Token", b)
				continue
			}
			at := len(ahead) + size + n + 1
			parsed(t, "Token", b, initial(1, token(n)), at, at+12)
		}
	}
	for _, n := range []uint64{61, 1 << 14, 1 << 30, 1 << 31, 1 << 32, 1<<32 + 1, api.MaxVar} {
		refused(t, "Token of more than there is", []byte(ahead+variable(n, 8)+"a\x0c"+behind(12)))
	}
}

func TestParseLength(t *testing.T) {
	for _, c := range []struct {
		ahead string
		want  api.Head
	}{{"\xc0" + version + names + "\x00", initial(1, nil)}, {"\xc0" + version + names + "\x02ab", initial(1, []byte("ab"))}, {"\xd0" + version + names, handshake(1)}} {
		for _, size := range []int{1, 2, 4, 8} {
			at := len(c.ahead) + size
			for n := range 64 {
				b := []byte(c.ahead + variable(uint64(n), size) + behind(40))
				if n < 12 || n > 40 {
					refused(t, "length", b)
					continue
				}
				parsed(t, "length", b, c.want, at, at+n)
			}
		}
		for _, n := range []uint64{41, 1 << 14, 1<<31 + 20, 1<<32 + 20, 1 << 61, api.MaxVar, api.MaxVar - 20} {
			refused(t, "length", []byte(c.ahead+variable(n, 8)+behind(40)))
		}
		for k := range 8 {
			refused(t, "length cut", []byte(c.ahead+variable(20, 8)[:k]))
		}
	}
}

func TestParseTakesTheFirstOfSeveral(t *testing.T) {
	a, _ := Encode(initial(2, []byte("tok")), 15)
	a = append(a, behind(15)...)
	b, _ := Encode(with(handshake(3), "To", from()), 30)
	b = append(b, behind(30)...)
	c, _ := Encode(data(4, true), 12)
	c = append(c, behind(12)...)
	all := bytes.Join([][]byte{a, b, c}, nil)
	_, at, end, why := Parse(all)
	if why != api.OK || at != len(a)-15 || end != len(a) {
		t.Errorf("P5.2: Parse, the first of three: %d, %d, %v", at, end, why)
	}
	parsed(t, "the second", all[end:], with(handshake(1), "To", from()), len(b)-30, len(b))
	parsed(t, "the third", all[end+len(b):], data(1, false), 9, len(c))
}

// TestMemory holds R2 and R5: what is handed in stays as it was, its spare room too, and answers are by themselves.
func TestMemory(t *testing.T) {
	room := bytes.Repeat([]byte{0xaa}, 32)
	h := initial(1, room[:3])
	b, _ := Encode(h, 20)
	again, _ := Encode(h, 20)
	if Right(h); Size(h) != len(b) || !bytes.Equal(room, bytes.Repeat([]byte{0xaa}, 32)) {
		t.Errorf("R2: what was handed in is changed: %x", room)
	}
	clear(room)
	clear(again[:cap(again)])
	if want := "\xc0" + version + names + "\x03\xaa\xaa\xaa\x40\x14"; string(b) != want {
		t.Errorf("R2: Encode shares memory: %x", b)
	}
	room = append(b, behind(40)...)
	kept := bytes.Clone(room)
	given := room[:len(b)+20]
	got, _, _, _ := Parse(given)
	other, _, _, _ := Parse(given)
	First(given)
	clear(other.Token[:cap(other.Token)])
	if !bytes.Equal(room, kept) {
		t.Errorf("R2: Parse changes what was handed in: %x", room)
	}
	clear(room)
	if string(got.Token) != "\xaa\xaa\xaa" {
		t.Errorf("R2: Parse shares memory: %x", got.Token)
	}
	refused(t, "R5: the spare room is not read", kept[:len(kept)-21])
}

// TestRandom gives rubbish, and heads with bytes turned, to Parse: what it takes is what the head that it answers is written as, but for what is free on the way.
func TestRandom(t *testing.T) {
	q := rand.New(rand.NewSource(5))
	heads := rightHeads()
	taken := 0
	for i := range 60000 {
		b, _ := Encode(heads[q.Intn(len(heads))], 12+q.Intn(40))
		b = append(b, behind(12+q.Intn(40))...)
		for range q.Intn(3) {
			b[q.Intn(min(len(b), 40))] = byte(q.Intn(256))
		}
		if i%4 == 0 {
			q.Read(b)
		}
		h, at, end, why := Parse(b)
		if why != api.OK {
			refused(t, "random", b)
			continue
		}
		taken++
		if h.Width != 1 || h.Phase || !Right(h) || end < at+12 || end > len(b) || h.Space == api.Data && end != len(b) {
			t.Fatalf("P5.2: %x: %+v, %d, %d", b, h, at, end)
		}
		if want, _ := Encode(h, end-at); !bytes.Equal(reduced(b[:at], h, end-at), want) {
			t.Fatalf("P5.3: %x: %+v, which is %x", b, h, want)
		}
	}
	if taken < 10000 {
		t.Errorf("only %d were taken", taken)
	}
}

// reduced is a head that was read with what may differ as Encode writes it: the first byte's free bits, and its numbers' lengths.
func reduced(b []byte, h api.Head, n int) []byte {
	if h.Space == api.Data {
		return append([]byte{b[0] & 0xc0}, b[1:]...)
	}
	out := append([]byte{b[0] & 0xf0}, b[1:23]...)
	b = b[23:]
	if h.Space == api.Initial {
		size, used := bits.GetVar(b)
		out = append(append(out, byte(size)), b[used:used+int(size)]...)
		b = b[used+int(size):]
	}
	got, used := bits.GetVar(b)
	if int(got) != n || used != len(b) {
		return nil
	}
	return append(out, variable(got, 2)...)
}
