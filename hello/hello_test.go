package hello

import (
	"bytes"
	"encoding/hex"
	"fmt"
	"math"
	"math/rand"
	"slices"
	"strings"
	"testing"

	"narthex/api"
	"narthex/lock"
	"narthex/mix"
	"narthex/param"
)

const psk = 5

// askers and answerers are what each end allows, in the hand-worked rows.
func askers() api.Params {
	return api.Params{MaxData: 300, MaxStreams: 2, First: api.CID{9, 0, 0, 0, 0, 0, 0, 1}}
}

func answerers() api.Params { return api.Params{Idle: 9, First: api.CID{7, 0, 0, 0, 0, 0, 0, 2}} }

func askersRandom() [8]byte { return [8]byte{1, 2, 3, 4, 5, 6, 7, 8} }

func answerersRandom() [8]byte { return [8]byte{8, 7, 6, 5, 4, 3, 2, 1} }

// What the two sides of those send and hold, worked out apart from this program by the words of mix, lock and param.
const (
	askersHello       = "01 00 19 01 02 03 04 05 06 07 08 04 02 41 2c 08 01 02 00 08 09 00 00 00 00 00 00 01"
	answerersHello    = "01 00 15 08 07 06 05 04 03 02 01 01 01 09 00 08 07 00 00 00 00 00 00 02"
	answerersFinished = "14 00 08 33 ae ce 67 58 68 d7 7a"
	askersFinished    = "14 00 08 e2 98 9b ac 2a 65 db 7a"
	theShaken         = 0xf87474a624595055
	theData           = 0xf61d6383e79bb0a
)

// row is the bytes that text writes.
func row(text string) []byte {
	b, err := hex.DecodeString(strings.ReplaceAll(text, " ", ""))
	if err != nil {
		panic(err)
	}
	return b
}

// letter is a message by the chapter's words.
func letter(what byte, b ...byte) []byte {
	return append([]byte{what, byte(len(b) >> 8), byte(len(b))}, b...)
}

// greets is a hello by the chapter's words.
func greets(random [8]byte, p api.Params) []byte {
	b, _ := param.Encode(p)
	return letter(1, append(random[:], b...)...)
}

// shows is a finished by the chapter's words.
func shows(shaken uint64, label string) []byte {
	b := mix.Bytes(lock.Derive(shaken, label))
	return letter(20, b[:]...)
}

func sides() (*Side, *Side) {
	return Ask(psk, askersRandom(), askers()), Answer(psk, answerersRandom(), answerers())
}

// step is bytes that are fed in a space.
type step struct {
	space int
	b     []byte
}

func first(b []byte) step  { return step{api.Initial, b} }
func second(b []byte) step { return step{api.Handshake, b} }
func data(b []byte) step   { return step{api.Data, b} }

// model is a side by the chapter's words. It keeps all bytes that came, and reads them from the first on.
type model struct {
	asks   bool
	psk    uint64
	own    []byte
	rows   map[int][]byte
	theirs []byte // the other's hello, whole, if it is right
	params api.Params
	done   bool
	code   int
}

func asking(psk uint64, random [8]byte, p api.Params) *model {
	return &model{asks: true, psk: psk, own: greets(random, p), rows: map[int][]byte{}}
}

func answering(psk uint64, random [8]byte, p api.Params) *model {
	return &model{psk: psk, own: greets(random, p), rows: map[int][]byte{}}
}

func (m *model) feed(space int, b []byte) int {
	for _, x := range b {
		if m.code == 0 {
			m.rows[space] = append(m.rows[space], x)
			m.code = m.judge(space)
		}
	}
	return m.code
}

// judge is the code of the bytes that came in space, of which the last one is new.
func (m *model) judge(space int) int {
	b := m.rows[space]
	what := map[int]byte{api.Initial: 1, api.Handshake: 20}[space]
	over := space == api.Initial && m.theirs != nil || space == api.Handshake && (m.theirs == nil || m.done)
	if what == 0 || over || b[0] != what {
		return api.Violation
	}
	if len(b) < 3 {
		return 0
	}
	n := int(b[1])*256 + int(b[2])
	switch {
	case n > 200:
		return api.Violation
	case len(b) < 3+n:
		return 0
	case space == api.Initial:
		return m.meets(b)
	}
	other := "client"
	if m.asks {
		other = "server"
	}
	if !bytes.Equal(b, shows(m.shaken(), other)) {
		return api.Mac
	}
	m.done = true
	return 0
}

func (m *model) meets(b []byte) int {
	if len(b) < 3+8 {
		return api.ParamError
	}
	p, why := param.Decode(b[3+8:])
	if why != api.OK {
		return api.ParamError
	}
	m.theirs, m.params = b, p
	return 0
}

func (m *model) shaken() uint64 {
	if m.asks {
		return mix.Keyed(m.psk, slices.Concat(m.own, m.theirs))
	}
	return mix.Keyed(m.psk, slices.Concat(m.theirs, m.own))
}

func (m *model) out(space int) []byte {
	met := m.theirs != nil
	switch {
	case space == api.Initial && (m.asks || met):
		return m.own
	case space == api.Handshake && m.asks && m.done:
		return shows(m.shaken(), "client")
	case space == api.Handshake && !m.asks && met:
		return shows(m.shaken(), "server")
	}
	return nil
}

func (m *model) secret(space int) (uint64, bool) {
	met := m.theirs != nil
	switch {
	case space == api.Handshake && met:
		return m.shaken(), true
	case space == api.Data && (m.asks && m.done || !m.asks && met):
		return lock.Derive(m.shaken(), "data"), true
	}
	return 0, false
}

// spaces are numbers of spaces, those that there are and others.
func spaces() []int {
	return []int{api.Initial, api.Handshake, api.Data, -1, 3, 4, 256, -256, math.MaxInt, math.MinInt}
}

// alike holds what a side tells against the model.
func alike(t *testing.T, s *Side, m *model, behind any) {
	t.Helper()
	for _, space := range spaces() {
		if b := s.Out(space); !bytes.Equal(b, m.out(space)) {
			t.Fatalf("P19.1: Out(%d): %x, not %x, behind %v", space, b, m.out(space), behind)
		}
		n, ok := s.Secret(space)
		if want, has := m.secret(space); n != want || ok != has {
			t.Fatalf("P19.1: Secret(%d): %x, %v, not %x, %v, behind %v", space, n, ok, want, has, behind)
		}
	}
	if s.Done() != m.done {
		t.Fatalf("P19.1: Done: %v, behind %v", s.Done(), behind)
	}
	if p, ok := s.Theirs(); p != m.params || ok != (m.theirs != nil) {
		t.Fatalf("P19.2: Theirs: %v, %v, not %v, behind %v", p, ok, m.params, behind)
	}
}

// run feeds a side and the model the same.
func run(t *testing.T, s *Side, m *model, l ...step) {
	t.Helper()
	alike(t, s, m, "nothing")
	for i, x := range l {
		if got, want := s.Feed(x.space, x.b), m.feed(x.space, x.b); got != want {
			t.Fatalf("P19.2: Feed: %d, not %d, behind %v", got, want, l[:i+1])
		}
		alike(t, s, m, l[:i+1])
	}
}

func secret(t *testing.T, s *Side, space int, want uint64) {
	t.Helper()
	if n, ok := s.Secret(space); n != want || ok != (want != 0) {
		t.Errorf("P19.1: Secret(%d): %x, %v, not %x", space, n, ok, want)
	}
}

func out(t *testing.T, s *Side, space int, want string) {
	t.Helper()
	if b := s.Out(space); !bytes.Equal(b, row(want)) {
		t.Errorf("P19.1: Out(%d): % x, not %s", space, b, want)
	}
}

func fed(t *testing.T, s *Side, space int, text string) {
	t.Helper()
	if code := s.Feed(space, row(text)); code != 0 {
		t.Fatalf("P19.2: Feed(%d, %s): %d", space, text, code)
	}
}

func TestFirst(t *testing.T) {
	if n := First(api.CID{1, 2, 3, 4, 5, 6, 7, 8}); n != 0xb5b5d2d6d5600fb0 {
		t.Errorf("P19.1: First: %x", n)
	}
	q := rand.New(rand.NewSource(19))
	for range 100 {
		n := q.Uint64()
		if First(mix.Bytes(n)) != lock.Derive(n, "initial") {
			t.Errorf("P19.1: First of %x", n)
		}
	}
}

// TestHand shakes hands by bytes and numbers that were worked out apart from this program.
func TestHand(t *testing.T) {
	a, b := sides()
	out(t, a, api.Initial, askersHello)
	out(t, a, api.Handshake, "")
	out(t, b, api.Initial, "")
	out(t, b, api.Handshake, "")
	for _, s := range []*Side{a, b} {
		if p, ok := s.Theirs(); ok || p != (api.Params{}) || s.Done() {
			t.Errorf("P19.1: ahead of all: %v, %v, %v", p, ok, s.Done())
		}
		for _, space := range spaces() {
			secret(t, s, space, 0)
		}
	}
	fed(t, b, api.Initial, askersHello)
	out(t, b, api.Initial, answerersHello)
	out(t, b, api.Handshake, answerersFinished)
	secret(t, b, api.Handshake, theShaken)
	secret(t, b, api.Data, theData)
	secret(t, b, api.Initial, 0)
	if p, ok := b.Theirs(); !ok || p != askers() || b.Done() {
		t.Errorf("P19.2: the asker's params: %v, %v, %v", p, ok, b.Done())
	}
	fed(t, a, api.Initial, answerersHello)
	out(t, a, api.Initial, askersHello)
	out(t, a, api.Handshake, "")
	secret(t, a, api.Handshake, theShaken)
	secret(t, a, api.Data, 0)
	if p, ok := a.Theirs(); !ok || p != answerers() || a.Done() {
		t.Errorf("P19.2: the answerer's params: %v, %v, %v", p, ok, a.Done())
	}
	fed(t, a, api.Handshake, answerersFinished)
	out(t, a, api.Handshake, askersFinished)
	secret(t, a, api.Handshake, theShaken)
	secret(t, a, api.Data, theData)
	secret(t, a, api.Initial, 0)
	if !a.Done() {
		t.Error("P19.1: the asker is not Done")
	}
	fed(t, b, api.Handshake, askersFinished)
	out(t, b, api.Handshake, answerersFinished)
	if !b.Done() {
		t.Error("P19.1: the answerer is not Done")
	}
}

// TestParams: whatever a side allows is told, whole; what is not Right is refused by the other end.
func TestParams(t *testing.T) {
	full := api.Params{Idle: 1 << 30, MaxData: api.MaxOffset, MaxStreamData: api.MaxOffset, MaxStreams: 1 << 20, First: api.CID{255, 1, 0, 8}}
	over := full
	over.MaxStreams++
	for i, p := range []api.Params{{}, askers(), full} {
		a, b := Ask(psk, askersRandom(), p), Answer(psk, answerersRandom(), p)
		if b.Feed(api.Initial, a.Out(api.Initial)) != 0 || a.Feed(api.Initial, b.Out(api.Initial)) != 0 {
			t.Fatalf("P19.2: params %d are refused", i)
		}
		for _, s := range []*Side{a, b} {
			if got, ok := s.Theirs(); !ok || got != p {
				t.Errorf("P19.2: Theirs of params %d: %v, %v", i, got, ok)
			}
		}
	}
	a, b := Ask(psk, askersRandom(), over), Answer(psk, answerersRandom(), full)
	if code := b.Feed(api.Initial, a.Out(api.Initial)); code != api.ParamError {
		t.Errorf("P19.2: params that are not Right: %d", code)
	}
}

// with is b with other bits at a place.
func with(b []byte, at int, bits byte) []byte {
	b = bytes.Clone(b)
	b[at] ^= bits
	return b
}

// fresh are both kinds of a side, each with its model.
func fresh() []struct {
	s *Side
	m *model
} {
	return []struct {
		s *Side
		m *model
	}{
		{Ask(psk, askersRandom(), askers()), asking(psk, askersRandom(), askers())},
		{Answer(psk, answerersRandom(), answerers()), answering(psk, answerersRandom(), answerers())},
	}
}

// told are the other end's messages for a side of fresh: its hello and its finished.
func told(asks bool) ([]byte, []byte) {
	if asks {
		return row(answerersHello), row(answerersFinished)
	}
	return row(askersHello), row(askersFinished)
}

// TestCodes: what is refused, by which code, ahead of the hello, behind it and behind the finished.
func TestCodes(t *testing.T) {
	for _, asks := range []bool{true, false} {
		hi, proof := told(asks)
		mine, _ := told(!asks)
		_, mirrored := told(!asks)
		random := []byte{1, 2, 3, 4, 5, 6, 7, 8}
		bare := append(bytes.Clone(random), 0, 8, 1, 2, 3, 4, 5, 6, 7, 8)
		for i, c := range []struct {
			ahead []step
			x     step
			code  int
		}{
			{nil, first(nil), 0}, {nil, second(nil), 0}, {nil, data(nil), 0}, {nil, step{-1, nil}, 0}, {nil, step{3, []byte{}}, 0},
			{nil, data([]byte{1}), api.Violation}, {nil, data(hi), api.Violation}, {nil, step{-1, hi}, api.Violation}, {nil, step{3, hi}, api.Violation}, {nil, step{256, hi}, api.Violation}, {nil, step{math.MinInt, hi}, api.Violation},
			{nil, first([]byte{0}), api.Violation}, {nil, first([]byte{2}), api.Violation}, {nil, first([]byte{20}), api.Violation}, {nil, first([]byte{255}), api.Violation}, {nil, first(proof), api.Violation},
			{nil, second([]byte{20}), api.Violation}, {nil, second([]byte{1}), api.Violation}, {nil, second(hi), api.Violation}, {nil, second(proof), api.Violation},
			{nil, first(hi), 0}, {nil, first(mine), 0}, {nil, first(letter(1, bare...)), 0},
			{nil, first([]byte{1}), 0}, {nil, first([]byte{1, 255}), 0}, {nil, first([]byte{1, 0, 200}), 0}, {nil, first([]byte{1, 0, 201}), api.Violation}, {nil, first([]byte{1, 1, 0}), api.Violation}, {nil, first([]byte{1, 255, 255}), api.Violation}, {nil, first([]byte{1, 128, 0}), api.Violation},
			{nil, first(letter(1)), api.ParamError}, {nil, first(letter(1, random[:7]...)), api.ParamError}, {nil, first(letter(1, random...)), api.ParamError}, {nil, first([]byte{1, 0, 7, 1, 2, 3, 4, 5, 6}), 0},
			{nil, first(letter(1, bare[1:]...)), api.ParamError}, {nil, first(letter(1, append(bytes.Clone(bare), 1)...)), api.ParamError}, {nil, first(letter(1, append(bytes.Clone(bare), bare[8:]...)...)), api.ParamError},
			{nil, first(letter(1, append(bytes.Clone(bare), append([]byte{63, 64, 180}, make([]byte, 180)...)...)...)), api.Violation}, {nil, first(letter(1, append(bytes.Clone(bare), append([]byte{63, 64, 178}, make([]byte, 178)...)...)...)), 0},
			{nil, first(append(bytes.Clone(hi), 0)), api.Violation}, {nil, first(append(bytes.Clone(hi), hi...)), api.Violation}, {nil, first(append(bytes.Clone(hi), proof...)), api.Violation}, {nil, first(append(letter(1), 0)), api.ParamError},
			{[]step{first(hi[:1])}, first(hi[1:]), 0}, {[]step{first(hi[:2])}, first(hi[2:]), 0}, {[]step{first(hi[:4])}, first(append(hi[4:], 1)), api.Violation}, {[]step{first(hi[:4])}, second(proof), api.Violation}, {[]step{first(hi[:4])}, data(hi[4:]), api.Violation}, {[]step{first(hi[:4])}, second(hi[4:]), api.Violation},
			{[]step{first(hi)}, first([]byte{1}), api.Violation}, {[]step{first(hi)}, first(proof), api.Violation}, {[]step{first(hi)}, data(proof), api.Violation}, {[]step{first(hi)}, step{7, proof}, api.Violation}, {[]step{first(hi)}, second([]byte{1}), api.Violation}, {[]step{first(hi)}, second([]byte{0}), api.Violation}, {[]step{first(hi)}, second(hi), api.Violation},
			{[]step{first(hi)}, second(proof), 0}, {[]step{first(hi)}, second(proof[:10]), 0}, {[]step{first(hi)}, second([]byte{20, 0, 200}), 0}, {[]step{first(hi)}, second([]byte{20, 0, 201}), api.Violation}, {[]step{first(hi)}, second([]byte{20, 1, 8}), api.Violation},
			{[]step{first(hi)}, second(mirrored), api.Mac}, {[]step{first(hi)}, second(letter(20)), api.Mac}, {[]step{first(hi)}, second(letter(20, proof[3:10]...)), api.Mac}, {[]step{first(hi)}, second(letter(20, append(bytes.Clone(proof[3:]), 0)...)), api.Mac}, {[]step{first(hi)}, second(letter(20, append([]byte{0}, proof[3:]...)...)), api.Mac}, {[]step{first(hi)}, second(with(proof, 3, 128)), api.Mac}, {[]step{first(hi)}, second(with(proof, 10, 1)), api.Mac}, {[]step{first(hi)}, second([]byte{20, 0, 9, 1, 2, 3, 4, 5, 6, 7, 8}), 0},
			{[]step{first(hi)}, second(append(bytes.Clone(proof), 20)), api.Violation}, {[]step{first(hi)}, second(append(bytes.Clone(proof), proof...)), api.Violation}, {[]step{first(hi)}, second(append(with(proof, 3, 1), 20)), api.Mac},
			{[]step{first(with(hi, 5, 1))}, second(proof), api.Mac},
			{[]step{first(hi), second(proof[:5])}, first([]byte{1}), api.Violation}, {[]step{first(hi), second(proof[:5])}, data([]byte{1}), api.Violation}, {[]step{first(hi), second(proof[:5])}, second(proof[5:]), 0},
			{[]step{first(hi), second(proof)}, first(hi), api.Violation}, {[]step{first(hi), second(proof)}, second(proof), api.Violation}, {[]step{first(hi), second(proof)}, data([]byte{0}), api.Violation}, {[]step{first(hi), second(proof)}, second(nil), 0},
		} {
			f := fresh()[map[bool]int{true: 0, false: 1}[asks]]
			run(t, f.s, f.m, c.ahead...)
			if code := f.s.Feed(c.x.space, c.x.b); code != c.code {
				t.Errorf("P19.2: case %d, asker %v: Feed: %d, not %d", i, asks, code, c.code)
				continue
			}
			f.m.feed(c.x.space, c.x.b)
			alike(t, f.s, f.m, fmt.Sprint("case ", i))
			if c.code != 0 {
				stays(t, f.s, f.m, c.code, hi, proof)
			}
		}
	}
}

// stays holds that behind a code each Feed answers it, and changes nothing.
func stays(t *testing.T, s *Side, m *model, code int, hi, proof []byte) {
	t.Helper()
	for _, x := range []step{first(nil), first(hi), second(proof), data(nil), data([]byte{1}), {-1, nil}, {9, hi}} {
		if got := s.Feed(x.space, x.b); got != code {
			t.Errorf("P19.2: behind the code %d: Feed(%d, %x): %d", code, x.space, x.b, got)
		}
		alike(t, s, m, fmt.Sprint("the code ", code))
	}
}

// TestTurned turns each bit of each message: none passes for another, but what the handshake's secret hangs on alone, which the finished tells.
func TestTurned(t *testing.T) {
	for _, asks := range []bool{true, false} {
		hi, proof := told(asks)
		for at := range 8 * len(hi) {
			f := fresh()[map[bool]int{true: 0, false: 1}[asks]]
			turned := with(hi, at/8, 1<<(at%8))
			run(t, f.s, f.m, first(turned))
			if _, ok := f.s.Theirs(); ok && f.s.Feed(api.Handshake, proof) != api.Mac {
				t.Errorf("P19.2: hello, bit %d: the finished passes", at)
			}
		}
		for at := range 8 * len(proof) {
			f := fresh()[map[bool]int{true: 0, false: 1}[asks]]
			turned := with(proof, at/8, 1<<(at%8))
			run(t, f.s, f.m, first(hi), second(turned))
			if f.s.Done() {
				t.Errorf("P19.2: finished, bit %d: Done", at)
			}
		}
	}
}

// TestPieces cuts the messages at every place and at every two, and feeds them byte by byte.
func TestPieces(t *testing.T) {
	for _, asks := range []bool{true, false} {
		hi, proof := told(asks)
		for i := range len(hi) + 1 {
			for j := i; j <= len(hi); j++ {
				f := fresh()[map[bool]int{true: 0, false: 1}[asks]]
				run(t, f.s, f.m, first(hi[:i]), first(hi[i:j]), second(nil), first(hi[j:]), second(proof))
				if !f.s.Done() {
					t.Fatalf("P19.2: hello cut at %d and %d: not Done", i, j)
				}
			}
		}
		for i := range len(proof) + 1 {
			for j := i; j <= len(proof); j++ {
				f := fresh()[map[bool]int{true: 0, false: 1}[asks]]
				run(t, f.s, f.m, first(hi), second(proof[:i]), second(proof[i:j]), first(nil), second(proof[j:]))
				if !f.s.Done() {
					t.Fatalf("P19.2: finished cut at %d and %d: not Done", i, j)
				}
			}
		}
		f := fresh()[map[bool]int{true: 0, false: 1}[asks]]
		for i := range hi {
			run(t, f.s, f.m, first(hi[i:i+1]))
		}
		for i := range proof {
			run(t, f.s, f.m, second(proof[i:i+1]))
		}
		if !f.s.Done() {
			t.Errorf("P19.2: byte by byte: not Done")
		}
	}
}

// TestAll feeds every row of three small steps behind some beginnings.
func TestAll(t *testing.T) {
	for _, asks := range []bool{true, false} {
		hi, proof := told(asks)
		_, mirrored := told(!asks)
		small := []step{
			first(nil), first(hi), first(hi[:5]), first(hi[5:]), first(hi[:1]), first(hi[1:]), first(letter(1, 1)), first([]byte{1, 0}), first([]byte{201}), first([]byte{9}),
			second(nil), second(proof), second(proof[:5]), second(proof[5:]), second(proof[:1]), second(proof[1:]), second(mirrored), second([]byte{20, 0}), second([]byte{201}), second(hi),
			data(nil), data(hi), {-1, hi}, {3, proof},
		}
		for _, begin := range [][]step{nil, {first(hi)}, {first(hi[:5])}, {first(hi), second(proof[:5])}, {first(hi), second(proof)}} {
			for i := range len(small) * len(small) * len(small) {
				f := fresh()[map[bool]int{true: 0, false: 1}[asks]]
				n := len(small)
				l := append(slices.Clone(begin), small[i/n/n], small[i/n%n], small[i%n])
				for k, x := range l {
					if got, want := f.s.Feed(x.space, x.b), f.m.feed(x.space, x.b); got != want {
						t.Fatalf("P19.2: Feed: %d, not %d, behind %v", got, want, l[:k+1])
					}
				}
				alike(t, f.s, f.m, l)
			}
		}
	}
}

// TestLong: pieces of any length, and more bytes than a message may have, end.
func TestLong(t *testing.T) {
	for _, asks := range []bool{true, false} {
		hi, proof := told(asks)
		for _, x := range []step{first(make([]byte, 1<<20)), first(bytes.Repeat([]byte{1}, 1<<20)), first(append(bytes.Clone(hi), make([]byte, 1<<20)...)), first(append([]byte{1, 0, 200}, make([]byte, 1<<20)...)), data(make([]byte, 1<<20)), second(bytes.Repeat([]byte{20}, 1<<20)), second(append(bytes.Clone(proof), make([]byte, 1<<20)...))} {
			for _, begin := range [][]step{nil, {first(hi)}} {
				f := fresh()[map[bool]int{true: 0, false: 1}[asks]]
				run(t, f.s, f.m, begin...)
				if got, want := f.s.Feed(x.space, x.b), f.m.feed(x.space, x.b); got != want || got == 0 {
					t.Errorf("P19.2: %d bytes in space %d: %d, not %d", len(x.b), x.space, got, want)
				}
				alike(t, f.s, f.m, "many bytes")
			}
		}
	}
}

// TestMemory: what is fed is not kept nor changed, and what is told shares no memory.
func TestMemory(t *testing.T) {
	a, b := sides()
	m, k := asking(psk, askersRandom(), askers()), answering(psk, answerersRandom(), answerers())
	pass := func(s *Side, m *model, space int, all []byte) {
		for _, piece := range [][]byte{all[:4:4], all[4:]} {
			wide := make([]byte, len(piece)+20)
			for i := range wide {
				wide[i] = 77
			}
			copy(wide, piece)
			if code := s.Feed(space, wide[:len(piece)]); code != m.feed(space, piece) || code != 0 {
				t.Fatalf("P19.2: a piece with room behind it: %d", code)
			}
			if !bytes.Equal(wide[:len(piece)], piece) || slices.ContainsFunc(wide[len(piece):], func(x byte) bool { return x != 77 }) {
				t.Error("R2: Feed changes what it is handed")
			}
			clear(wide)
		}
	}
	spoil := func(s *Side) {
		for _, space := range spaces() {
			l := s.Out(space)
			l = l[:cap(l)]
			for i := range l {
				l[i] ^= 255
			}
		}
	}
	for _, x := range []struct {
		s     *Side
		m     *model
		space int
		b     string
	}{{b, k, api.Initial, askersHello}, {a, m, api.Initial, answerersHello}, {a, m, api.Handshake, answerersFinished}, {b, k, api.Handshake, askersFinished}} {
		spoil(a)
		spoil(b)
		pass(x.s, x.m, x.space, row(x.b))
		alike(t, a, m, "spoilt bytes")
		alike(t, b, k, "spoilt bytes")
	}
	spoil(a)
	spoil(b)
	alike(t, a, m, "spoilt bytes")
	alike(t, b, k, "spoilt bytes")
}

// TestApart: sides know nothing of one another, but what they are fed.
func TestApart(t *testing.T) {
	q := rand.New(rand.NewSource(191))
	for range 300 {
		f, g := fresh(), fresh()
		for range 30 {
			k := q.Intn(2)
			hi, proof := told(k == 0)
			x := []step{first(hi), second(proof), first(hi[:3]), first(hi[3:]), second(proof[:4]), second(proof[4:]), first(nil)}[q.Intn(7)]
			l := [][]struct {
				s *Side
				m *model
			}{f, g}[q.Intn(2)]
			if got, want := l[k].s.Feed(x.space, x.b), l[k].m.feed(x.space, x.b); got != want {
				t.Fatalf("P19.2: Feed: %d, not %d", got, want)
			}
			for i := range 2 {
				alike(t, f[i].s, f[i].m, "others")
				alike(t, g[i].s, g[i].m, "others")
			}
		}
	}
}

// anyParams are some that are Right.
func anyParams(q *rand.Rand) api.Params {
	p := api.Params{First: api.CID(mix.Bytes(q.Uint64()))}
	for _, f := range []struct {
		into *uint64
		most int64
	}{{&p.Idle, 1 << 30}, {&p.MaxData, api.MaxOffset}, {&p.MaxStreamData, api.MaxOffset}, {&p.MaxStreams, 1 << 20}} {
		if q.Intn(3) > 0 {
			*f.into = uint64(q.Int63n(f.most+1)) >> q.Intn(41)
		}
	}
	return p
}

// TestThrough: two sides that are fed one another's bytes, in pieces, by any turns, are Done with the same secrets, if they have one psk, and not, if they have not.
func TestThrough(t *testing.T) {
	q := rand.New(rand.NewSource(193))
	for round := range 400 {
		one := round%2 == 0
		k, r := q.Uint64(), [2][8]byte{mix.Bytes(q.Uint64()), mix.Bytes(q.Uint64())}
		other := k
		if !one {
			other ^= 1 << q.Intn(64)
		}
		mine, yours := anyParams(q), anyParams(q)
		a, b := Ask(k, r[0], mine), Answer(other, r[1], yours)
		m, n := asking(k, r[0], mine), answering(other, r[1], yours)
		var went [2][2]int
		for turn := 0; turn < 4000 && (went[0][1] < 11 || went[1][1] < 11); turn++ {
			from, to, its, i := a, b, n, 0
			if q.Intn(2) == 0 {
				from, to, its, i = b, a, m, 1
			}
			space := q.Intn(2)
			if _, ok := to.Theirs(); space == api.Handshake && !ok {
				continue
			}
			all := from.Out(space)[went[i][space]:]
			size := q.Intn(len(all) + 1)
			went[i][space] += size
			code := to.Feed(space, all[:size])
			if code != its.feed(space, all[:size]) || code != 0 && (one || code != api.Mac) {
				t.Fatalf("P19.3: round %d: %d", round, code)
			}
		}
		alike(t, a, m, "all")
		alike(t, b, n, "all")
		if a.Done() != one || b.Done() != one {
			t.Fatalf("P19.3: round %d: Done: %v, %v", round, a.Done(), b.Done())
		}
		for _, space := range spaces() {
			x, ok := a.Secret(space)
			y, too := b.Secret(space)
			if one && (x != y || ok != too) || !one && ok && x == y {
				t.Fatalf("P19.3: round %d: Secret(%d): %x, %x", round, space, x, y)
			}
		}
		if p, ok := a.Theirs(); !ok || p != yours {
			t.Fatalf("P19.2: round %d: Theirs: %v", round, p)
		}
		if p, ok := b.Theirs(); !ok || p != mine {
			t.Fatalf("P19.2: round %d: Theirs: %v", round, p)
		}
	}
}

// TestRows feeds rows of any bytes that are near to what may come.
func TestRows(t *testing.T) {
	q := rand.New(rand.NewSource(197))
	for range 20000 {
		k := q.Intn(2)
		f := fresh()[k]
		hi, proof := told(k == 0)
		for range 6 {
			b := [][]byte{hi, proof, letter(byte(q.Intn(22)), make([]byte, q.Intn(210))...), {byte(q.Intn(22))}, {0}}[q.Intn(5)]
			i := q.Intn(len(b) + 1)
			j := i + q.Intn(len(b)-i+1)
			if q.Intn(2) == 0 {
				i, j = 0, len(b)
			}
			x := step{q.Intn(2), bytes.Clone(b[i:j])}
			if q.Intn(20) == 0 {
				x.space = spaces()[q.Intn(len(spaces()))]
			}
			if q.Intn(8) == 0 && len(x.b) > 0 {
				x.b[q.Intn(len(x.b))] ^= 1 << q.Intn(8)
			}
			if got, want := f.s.Feed(x.space, x.b), f.m.feed(x.space, x.b); got != want {
				t.Fatalf("P19.2: Feed(%d, %x): %d, not %d", x.space, x.b, got, want)
			}
		}
		alike(t, f.s, f.m, "a row")
	}
}
