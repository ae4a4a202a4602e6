package param

import (
	"bytes"
	"math"
	"math/rand"
	"slices"
	"testing"

	"narthex/api"
	"narthex/bits"
)

// named is a name that params may have, and what they may have of it at most.
type named struct {
	name, most uint64
	of         func(p *api.Params) *uint64
}

// numbers are the four that have numbers, in the order of the document.
func numbers() []named {
	return []named{
		{1, 1 << 30, func(p *api.Params) *uint64 { return &p.Idle }},
		{4, 1 << 40, func(p *api.Params) *uint64 { return &p.MaxData }},
		{5, 1 << 40, func(p *api.Params) *uint64 { return &p.MaxStreamData }},
		{8, 1 << 20, func(p *api.Params) *uint64 { return &p.MaxStreams }},
	}
}

// with is params of firstName, and n in that field.
func with(x named, n uint64) api.Params {
	p := api.Params{First: firstName()}
	*x.of(&p) = n
	return p
}

func firstName() api.CID { return api.CID{0xc1, 2, 3, 4, 5, 6, 7, 0xc8} }

// ending is firstName behind its name, as Encode ends.
const ending = "\x00\x08\xc1\x02\x03\x04\x05\x06\x07\xc8"

// all are params of everything, which are written as allText.
func all() api.Params {
	return api.Params{Idle: 63, MaxData: 64, MaxStreamData: 1 << 14, MaxStreams: 1, First: firstName()}
}

const allText = "\x01\x01\x3f" + "\x04\x02\x40\x40" + "\x05\x04\x80\x00\x40\x00" + "\x08\x01\x01" + ending

// edges are numbers about where lengths and limits change.
func edges() []uint64 {
	var l []uint64
	for _, k := range []int{0, 6, 14, 20, 30, 31, 32, 40, 62, 63} {
		l = append(l, 1<<k-1, 1<<k, 1<<k+1)
	}
	return append(l, math.MaxUint64)
}

// variable is n as a Var of that many bytes, the shortest or not.
func variable(n uint64, size int) string {
	b := make([]byte, size)
	for i := range size {
		b[size-1-i] = byte(n >> (8 * i))
	}
	form := map[int]byte{1: 0, 2: 1, 4: 2, 8: 3}[size]
	b[0] |= form << 6
	return string(b)
}

// shortest is n as a Var.
func shortest(n uint64) string { return variable(n, bits.Size(n)) }

// row is a name, and a Text behind it.
func row(name uint64, text string) string {
	return shortest(name) + shortest(uint64(len(text))) + text
}

// refused tells of bytes that Decode takes, or refuses otherwise than by ErrForm and zeros.
func refused(t *testing.T, what, b string) {
	t.Helper()
	if p, why := Decode([]byte(b)); why != api.ErrForm || p != (api.Params{}) {
		t.Errorf("P6.2: Decode: %s: %x: %+v, %v", what, b, p, why)
	}
}

// decoded tells of bytes that Decode does not take as those params.
func decoded(t *testing.T, what, b string, want api.Params) {
	t.Helper()
	if p, why := Decode([]byte(b)); why != api.OK || p != want {
		t.Errorf("P6.2: Decode: %s: %x: %+v, %v", what, b, p, why)
	}
}

func TestRightAndEncodeByTheirLimits(t *testing.T) {
	for _, x := range numbers() {
		for _, n := range edges() {
			p := with(x, n)
			if Right(p) != (n <= x.most) {
				t.Errorf("P6.1: Right(%+v): %t", p, Right(p))
			}
			b, why := Encode(p)
			if n > x.most {
				if why != api.ErrArg || len(b) > 0 {
					t.Errorf("P6.1: Encode(%+v): %x, %v", p, b, why)
				}
				continue
			}
			want := ending
			if n > 0 {
				want = row(x.name, shortest(n)) + ending
			}
			if string(b) != want || why != api.OK {
				t.Errorf("P6.1: Encode(%+v): %x, %v", p, b, why)
			}
			decoded(t, "P6.3", string(b), p)
		}
	}
}

func TestEncodeByHand(t *testing.T) {
	for _, c := range []struct {
		p    api.Params
		want string
	}{
		{api.Params{}, "\x00\x08\x00\x00\x00\x00\x00\x00\x00\x00"},
		{api.Params{First: firstName()}, ending},
		{all(), allText},
		{api.Params{MaxData: 5, MaxStreams: 1 << 20, First: firstName()}, "\x04\x01\x05" + "\x08\x04\x80\x10\x00\x00" + ending},
		{api.Params{Idle: 1 << 30, MaxStreamData: 1 << 40, First: firstName()}, "\x01\x08\xc0\x00\x00\x00\x40\x00\x00\x00" + "\x05\x08\xc0\x00\x01\x00\x00\x00\x00\x00" + ending},
	} {
		b, why := Encode(c.p)
		if string(b) != c.want || why != api.OK || !Right(c.p) {
			t.Errorf("P6.1: Encode(%+v): %x, %v", c.p, b, why)
		}
		decoded(t, "P6.3", c.want, c.p)
	}
	if b, why := Encode(api.Params{MaxStreams: 1<<20 + 1}); why != api.ErrArg || len(b) > 0 { // the chapter's example 1
		t.Errorf("P6.1: Encode: %x, %v", b, why)
	}
}

func TestDecodeOfNothing(t *testing.T) {
	refused(t, "nothing", "") // the chapter's run
	if p, why := Decode(nil); why != api.ErrForm || p != (api.Params{}) {
		t.Errorf("P6.2: Decode(nil): %+v, %v", p, why)
	}
}

// TestDecodeInAnyOrder gives the five names in every order, other ones between: the chapter's example 2.
func TestDecodeInAnyOrder(t *testing.T) {
	rows := []string{"\x01\x01\x3f", "\x04\x02\x40\x40", "\x05\x04\x80\x00\x40\x00", "\x08\x01\x01", ending}
	var put func(ahead string, left []string)
	put = func(ahead string, left []string) {
		if len(left) == 0 {
			decoded(t, "in another order", ahead, all())
			decoded(t, "in another order, one more behind", ahead+"\x02\x00", all())
			return
		}
		for i := range left {
			put(ahead+left[i], slices.Delete(slices.Clone(left), i, i+1))
			put(ahead+"\x07\x01z"+left[i], slices.Delete(slices.Clone(left), i, i+1))
		}
	}
	put("", rows)
}

func TestDecodeLacking(t *testing.T) {
	for k := range len(allText) {
		refused(t, "cut", allText[:k])
	}
	refused(t, "First does not come", allText[:len(allText)-len(ending)])
	refused(t, "First does not come", "\x09\x01z")
	for k := 1; k < len(ending); k++ {
		refused(t, "cut behind all", allText+"\x09\x08\xc1\x02\x03\x04\x05\x06\x07\xc8"[:k])
	}
	for _, n := range []uint64{3, 1 << 14, 1 << 31, 1 << 32, 1<<32 + 2, api.MaxVar} {
		refused(t, "a Text of more than there is", ending+"\x09"+variable(n, 8)+"ab")
		refused(t, "a number's Text of more than there is", ending+"\x01"+variable(n, 8)+"\x40\x05")
	}
	for _, name := range []string{"\x40", "\x80\x00\x00", "\xc0\x00\x00\x00\x00\x00\x00"} {
		refused(t, "a name that is cut", ending+name)
	}
}

func TestDecodeNamesThatComeTwice(t *testing.T) {
	for _, x := range numbers() {
		for _, n := range []uint64{0, 1, 64, x.most} {
			for _, m := range []uint64{0, 1, n} {
				refused(t, "a name twice", row(x.name, shortest(n))+row(x.name, shortest(m))+ending)
				refused(t, "a name twice, apart", row(x.name, shortest(n))+ending+row(x.name, shortest(m)))
				refused(t, "a name twice, once in more bytes", row(x.name, shortest(n))+"\x40"+row(x.name, shortest(m))+ending)
			}
		}
	}
	refused(t, "First twice", ending+ending)
	refused(t, "First twice", "\x00\x08\x00\x00\x00\x00\x00\x00\x00\x00"+ending)
	refused(t, "First twice, once in more bytes", ending+"\x40"+ending)
	refused(t, "First twice, apart", ending+allText)
}

// TestDecodeNamesInWhicheverLength gives names, lengths and numbers in more bytes than they need.
func TestDecodeNamesInWhicheverLength(t *testing.T) {
	for _, a := range []int{1, 2, 4, 8} {
		for _, b := range []int{1, 2, 4, 8} {
			decoded(t, "First", variable(0, a)+variable(8, b)+ending[2:], api.Params{First: firstName()})
			for _, c := range []int{1, 2, 4, 8} {
				for _, x := range numbers() {
					for _, n := range []uint64{0, 1, 63} {
						decoded(t, "a number", variable(x.name, a)+variable(uint64(c), b)+variable(n, c)+ending, with(x, n))
					}
				}
			}
		}
	}
}

func TestDecodeOtherNames(t *testing.T) {
	for name := range uint64(600) {
		if name < 9 && name != 2 && name != 3 && name != 6 && name != 7 {
			continue
		}
		for _, text := range []string{"", "\x05", "\x40", "eight by", "\x40\x05z"} {
			other := row(name, text)
			decoded(t, "another name", other+allText, all())
			decoded(t, "another name twice", other+allText+other+other, all())
			refused(t, "another name alone", other)
		}
	}
	// Names that would be one of the five if only their low bits were asked.
	for _, high := range []uint64{16, 1 << 8, 1 << 14, 1 << 16, 1 << 31, 1 << 32, 1 << 61} {
		for _, low := range []uint64{0, 1, 4, 5, 8} {
			decoded(t, "a great name", row(high+low, "\x05")+allText+row(high+low, "\x05"), all())
			refused(t, "a great name alone", row(high+low, "eight by"))
		}
	}
	decoded(t, "the greatest name", ending+row(api.MaxVar, ""), api.Params{First: firstName()})
	decoded(t, "a long Text", row(9, string(make([]byte, 70000)))+ending, api.Params{First: firstName()})
}

func TestDecodeTextsOfNumbers(t *testing.T) {
	for _, x := range numbers() {
		for _, text := range []string{
			"", "\x40", "\x80", "\x80\x00\x00", "\xc0", "\xc0\x00\x00\x00\x00\x00\x00",
			"\x05\x05", "\x00\x00", "\x40\x05\x00", "\x80\x00\x00\x05\x00", "\xc0\x00\x00\x00\x00\x00\x00\x05\x00",
		} {
			refused(t, "not just one Var", row(x.name, text)+ending)
			refused(t, "not just one Var", ending+row(x.name, text))
		}
		for _, n := range edges() {
			if n > api.MaxVar {
				continue
			}
			b := row(x.name, variable(n, 8)) + ending
			if n > x.most {
				refused(t, "not Right", b)
				continue
			}
			decoded(t, "a number in eight bytes", b, with(x, n))
		}
	}
}

func TestDecodeTextsOfFirst(t *testing.T) {
	for n := range 300 {
		b := row(0, string(bytes.Repeat([]byte{0xee}, n)))
		if n == 8 {
			decoded(t, "First", b, api.Params{First: api.CID{0xee, 0xee, 0xee, 0xee, 0xee, 0xee, 0xee, 0xee}})
			continue
		}
		refused(t, "First of another length", b)
		refused(t, "First of another length", allText[:len(allText)-len(ending)]+b)
	}
}

// TestMemory holds R2 and R5: what is handed in stays as it was, its spare room too, and answers are by themselves.
func TestMemory(t *testing.T) {
	a, _ := Encode(all())
	b, _ := Encode(all())
	clear(a[:cap(a)])
	if string(b) != allText {
		t.Errorf("R2: two answers share memory: %x", b)
	}
	room := []byte(allText + "\x09\x01z behind")
	given := room[:len(allText)]
	p, why := Decode(given)
	if string(room) != allText+"\x09\x01z behind" {
		t.Errorf("R2: Decode changes what was handed in: %x", room)
	}
	clear(room)
	if p != all() || why != api.OK {
		t.Errorf("R2, R5: %+v, %v", p, why)
	}
	room = []byte(allText)
	if p, why := Decode(room[:len(room)-1]); why != api.ErrForm || p != (api.Params{}) {
		t.Errorf("R5: the spare room is read: %+v, %v", p, why)
	}
}

// TestRandomParams holds P6.3 for params of all sizes.
func TestRandomParams(t *testing.T) {
	q := rand.New(rand.NewSource(6))
	for range 20000 {
		var p api.Params
		for _, x := range numbers() {
			if q.Intn(4) > 0 {
				*x.of(&p) = min(q.Uint64()>>q.Intn(64), x.most)
			}
		}
		q.Read(p.First[:])
		b, why := Encode(p)
		if why != api.OK {
			t.Fatalf("P6.1: Encode(%+v): %v", p, why)
		}
		decoded(t, "P6.3", string(b), p)
	}
}

// TestRandomBytes gives rows that fit and that do not, and bytes that are turned, to Decode, and holds its answer against the words of P6.2.
func TestRandomBytes(t *testing.T) {
	q := rand.New(rand.NewSource(7))
	taken := 0
	for range 60000 {
		b := randomRows(q)
		if q.Intn(3) == 0 && len(b) > 0 {
			b[q.Intn(len(b))] ^= byte(1 << q.Intn(8))
		}
		p, why := Decode(b)
		want, ok := byTheWords(b)
		if ok != (why == api.OK) || !ok && why != api.ErrForm || p != want {
			t.Fatalf("P6.2: %x: %+v, %v; not %+v, %t", b, p, why, want, ok)
		}
		if ok {
			taken++
			again, _ := Encode(p)
			decoded(t, "P6.3", string(again), p)
		}
	}
	if taken < 5000 {
		t.Errorf("only %d were taken", taken)
	}
}

// randomRows are rows of names, mostly of those that params have.
func randomRows(q *rand.Rand) []byte {
	names := []uint64{0, 1, 4, 5, 8, 2, 3, 9, 64, 1 << 20}
	q.Shuffle(len(names), func(i, j int) { names[i], names[j] = names[j], names[i] })
	var b string
	for _, name := range names[:q.Intn(len(names)+1)] {
		text := shortest(min(q.Uint64()>>q.Intn(64), 1<<20))
		if name == 0 {
			text = "eight by"
		}
		b += row(name, text)
	}
	if q.Intn(20) == 0 {
		b += b
	}
	return []byte(b)
}

// byTheWords reads params in the slowest way: all rows first, and then of each name the rows that it has.
func byTheWords(b []byte) (api.Params, bool) {
	rows := map[uint64][][]byte{}
	for len(b) > 0 {
		name, a := bits.GetVar(b)
		n, c := bits.GetVar(b[a:])
		if a == 0 || c == 0 || n > uint64(len(b)-a-c) {
			return api.Params{}, false
		}
		b = b[a+c:]
		rows[name] = append(rows[name], b[:n])
		b = b[n:]
	}
	if len(rows[0]) != 1 || len(rows[0][0]) != 8 {
		return api.Params{}, false
	}
	p := api.Params{First: api.CID(rows[0][0])}
	for _, x := range numbers() {
		if len(rows[x.name]) == 0 {
			continue
		}
		text := rows[x.name][0]
		n, size := bits.GetVar(text)
		if len(rows[x.name]) > 1 || size == 0 || size != len(text) || n > x.most {
			return api.Params{}, false
		}
		*x.of(&p) = n
	}
	return p, true
}
