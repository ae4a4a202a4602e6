package packet

import (
	"bytes"
	"encoding/binary"
	"encoding/hex"
	"math"
	"math/rand"
	"reflect"
	"testing"

	"narthex/api"
	"narthex/head"
	"narthex/lock"
	"narthex/pnum"
)

func to() api.CID { return api.CID{1, 2, 3, 4, 5, 6, 7, 8} }

func from() api.CID { return api.CID{9, 8, 7, 6, 5, 4, 3, 2} }

// initial, handshake and data are Right heads of each space.
func initial(width int, token string) api.Head {
	return api.Head{Space: api.Initial, To: to(), From: from(), Token: []byte(token), Width: width}
}

func handshake(width int) api.Head {
	return api.Head{Space: api.Handshake, To: to(), From: from(), Width: width}
}

func data(width int, phase bool) api.Head {
	return api.Head{Space: api.Data, To: to(), Width: width, Phase: phase}
}

// with is h with another value in that field.
func with(h api.Head, field string, x any) api.Head {
	reflect.ValueOf(&h).Elem().FieldByName(field).Set(reflect.ValueOf(x))
	return h
}

const longestToken = "a token of thirty-two bytes, all" // MaxToken

// heads are heads of every space, width and phase, with tokens of some lengths and without.
func heads() []api.Head {
	var l []api.Head
	for width := 1; width <= 4; width++ {
		l = append(l, initial(width, ""), initial(width, "token"), initial(width, longestToken), handshake(width), data(width, false), data(width, true))
		l = append(l, api.Head{Width: width}, api.Head{Space: api.Data, Width: width})
	}
	return l
}

// same holds two heads against each other, nil and empty tokens alike.
func same(g, h api.Head) bool {
	return bytes.Equal(g.Token, h.Token) && g.Space == h.Space && g.To == h.To && g.From == h.From && g.Width == h.Width && g.Phase == h.Phase
}

func keys() lock.Keys { return lock.Of(9) }

// sealedBehind is P9.1's Protect by the chapter's words, of a head that is bytes already, so that it may be one that Encode does not write.
func sealedBehind(k lock.Keys, ahead []byte, space, width int, n uint64, payload []byte) []byte {
	at := len(ahead)
	low := binary.BigEndian.AppendUint64(nil, n)[8-width:]
	b := append(bytes.Clone(ahead), low...)
	b = append(b, lock.Seal(k.Seal, n, b, payload)...)
	m := lock.Mask(k.Mask, [8]byte(b[at+4:at+12]))
	b[0] ^= m[0] & map[int]byte{api.Initial: 15, api.Handshake: 15, api.Data: 31}[space]
	for i := range width {
		b[at+i] ^= m[1+i]
	}
	return b
}

// sealed is P9.1's Protect by the chapter's words; odd is set in the first byte beside what belongs there.
func sealed(k lock.Keys, h api.Head, n uint64, payload []byte, odd byte) []byte {
	ahead, _ := head.Encode(h, h.Width+len(payload)+api.TagLen)
	ahead[0] |= odd
	return sealedBehind(k, ahead, h.Space, h.Width, n, payload)
}

// noHead, noPacket and none tell of an answer of Reveal, Unprotect and both that is not a refusal by want with zeros beside it.
func noHead(t *testing.T, what string, k lock.Keys, b []byte, want api.Errno) {
	t.Helper()
	if h, low, why := Reveal(k, b); why != want || !same(h, api.Head{}) || low != 0 {
		t.Errorf("P9.2: Reveal %s: %x: %+v, %d, %v, not %v", what, b, h, low, why, want)
	}
}

func noPacket(t *testing.T, what string, k lock.Keys, b []byte, largest uint64, has bool, want api.Errno) {
	t.Helper()
	if h, n, payload, why := Unprotect(k, b, largest, has); why != want || !same(h, api.Head{}) || n != 0 || len(payload) > 0 {
		t.Errorf("P9.2: Unprotect %s: %x: %+v, %d, %x, %v, not %v", what, b, h, n, payload, why, want)
	}
}

func none(t *testing.T, what string, b []byte) {
	t.Helper()
	noHead(t, what, keys(), b, api.ErrForm)
	noPacket(t, what, keys(), b, 0, false, api.ErrForm)
	if n, ok := Cut(b); ok || n != 0 {
		t.Errorf("P9.2: Cut %s: %x: %d, %t", what, b, n, ok)
	}
}

// is tells of a packet that Unprotect does not open as that.
func is(t *testing.T, what string, k lock.Keys, b []byte, largest uint64, has bool, want api.Head, n uint64, payload []byte) {
	t.Helper()
	if h, m, p, why := Unprotect(k, b, largest, has); why != api.OK || !same(h, want) || m != n || !bytes.Equal(p, payload) {
		t.Errorf("%s: Unprotect: %x: %+v, %d, %x, %v, not %+v, %d, %x", what, b, h, m, p, why, want, n, payload)
	}
}

// reveals tells of a packet that Reveal does not answer as that.
func reveals(t *testing.T, what string, k lock.Keys, b []byte, want api.Head, low uint32) {
	t.Helper()
	if h, l, why := Reveal(k, b); why != api.OK || !same(h, want) || l != low {
		t.Errorf("%s: Reveal: %x: %+v, %x, %v, not %+v, %x", what, b, h, l, why, want, low)
	}
}

func TestKnownPackets(t *testing.T) {
	for _, c := range []struct {
		secret  uint64
		h       api.Head
		n       uint64
		payload string
		want    string
	}{
		{9, initial(1, ""), 0, "abc", "cc0000000108010203040506070808090807060504030200400cb8fac66552fa08a52c46fc78"},
		{9, initial(2, "token"), 300, "payload", "c30000000108010203040506070808090807060504030205746f6b656e4011c103a4bdf5402b273f1d1a3bc232ca48ba"},
		{9, api.Head{Token: bytes.Repeat([]byte{0xee}, 32), Width: 4}, api.MaxVar, "", "c60000000108000000000000000008000000000000000020eeeeeeeeeeeeeeeeeeeeeeeeeeeeeeeeeeeeeeeeeeeeeeeeeeeeeeeeeeeeeeee400c207e2cc0c040d79e2d9b78c5"},
		{5, handshake(3), 0xac5c02, "a handshake", "dc000000010801020304050607080809080706050403024016096920f35f1e0c9bdba088e15dd242c34408662a9ec0"},
		{5, with(handshake(4), "From", api.CID{}), 1 << 40, "\x00", "d000000001080102030405060708080000000000000000400d864e73f08bbee60d7b89acc667"},
		{0, data(1, false), 255, "\xff\xff\xff", "460102030405060708617aa9a91737b646eed15d8d"},
		{0, data(1, true), 256, "\xff\xff\xff", "5a010203040506070893776ab67ca6ee914be0e32e"},
		{math.MaxUint64, with(data(2, true), "To", api.CID{}), 65535, "of a phase", "530000000000000000820fe89ea5ec6578a827c7491ace8c81fa9898ce"},
		{math.MaxUint64, data(3, false), 65536, "more than one block of bytes", "590102030405060708ccdebcac36721a63cba3c3e30cd9183fa5c7f618044543a3bda4d1207029744b3cc79ff68869df"},
		{77, data(4, true), 0x123456789a, "", "4101020304050607086d162308e5c8926651e9fc84"},
	} {
		k := lock.Of(c.secret)
		b, why := Protect(k, c.h, c.n, []byte(c.payload))
		if hex.EncodeToString(b) != c.want || why != api.OK {
			t.Errorf("P9.1: Protect(%+v, %d, %q): %x, %v, not %s", c.h, c.n, c.payload, b, why, c.want)
		}
		b, _ = hex.DecodeString(c.want)
		reveals(t, "P9.2", k, b, c.h, pnum.Cut(c.n, c.h.Width))
		is(t, "P9.2", k, b, c.n-1, c.n > 0, c.h, c.n, []byte(c.payload))
		if n, ok := Cut(b); n != len(b) || !ok {
			t.Errorf("P9.2: Cut of %x: %d, %t", b, n, ok)
		}
	}
}

// TestEveryHead holds all calls against the chapter's words, over heads, numbers and payloads from the least on.
func TestEveryHead(t *testing.T) {
	for i, h := range heads() {
		k := lock.Of(uint64(i))
		for _, n := range []uint64{0, 1, 127, 128, 255, 256, 1<<16 - 1, 1 << 16, 0x123456, 1<<24 - 1, 1 << 24, 1<<32 - 1, 1 << 32, 1<<32 + 5, 0xa1b2c3d4e5f6, api.MaxVar - 1, api.MaxVar} {
			for _, size := range []int{4 - h.Width, 5 - h.Width, 7, 8, 9, 63, 64, 300} {
				payload := bytes.Repeat([]byte{byte(i), byte(n), 0xff}, 100)[:size]
				b, why := Protect(k, h, n, payload)
				if want := sealed(k, h, n, payload, 0); !bytes.Equal(b, want) || why != api.OK {
					t.Fatalf("P9.1: Protect(%+v, %d, %x): %x, %v, not %x", h, n, payload, b, why, want)
				}
				reveals(t, "P9.2", k, b, h, uint32(n&(1<<(8*h.Width)-1)))
				is(t, "P9.3", k, b, n-1, n > 0, h, n, payload)
				if m, ok := Cut(b); m != len(b) || !ok {
					t.Errorf("P9.2: Cut of %x: %d, %t", b, m, ok)
				}
			}
		}
	}
}

func TestTheMaskHidesAsItSays(t *testing.T) {
	hidden := map[int]byte{}
	for secret := range uint64(200) {
		for _, h := range []api.Head{initial(4, ""), handshake(4), data(4, false)} {
			bare, _ := head.Encode(h, 20)
			b, _ := Protect(lock.Of(secret), h, 5, make([]byte, 8))
			hidden[h.Space] |= b[0] ^ bare[0]
			if !bytes.Equal(b[1:len(bare)], bare[1:]) {
				t.Fatalf("P9.1: Protect(%+v) hides more of its head than the first byte: %x", h, b)
			}
		}
	}
	if hidden[api.Initial] != 15 || hidden[api.Handshake] != 15 || hidden[api.Data] != 31 {
		t.Errorf("P9.1: bits of the first byte that are masked: %v", hidden)
	}
}

func TestProtectRefusesHeads(t *testing.T) {
	wrong := []api.Head{with(initial(1, ""), "Phase", true), with(handshake(1), "Phase", true), with(handshake(1), "Token", []byte("a")), with(data(1, false), "Token", []byte("a")), with(data(1, true), "From", from()), initial(1, longestToken+"!"), initial(1, string(make([]byte, 600)))}
	for _, width := range []int{math.MinInt, -8, -1, 0, 5, 6, 255, 257, 1<<32 + 1, math.MaxInt - 20, math.MaxInt} {
		wrong = append(wrong, initial(width, ""), handshake(width), data(width, false))
	}
	for _, space := range []int{math.MinInt, -1, 3, 4, 256, 1<<32 + 2, math.MaxInt} {
		wrong = append(wrong, api.Head{Space: space, To: to(), Width: 1})
	}
	for _, h := range append(wrong, api.Head{}) {
		for _, size := range []int{0, 4, 20, 600, 20000} {
			if b, why := Protect(keys(), h, 0, make([]byte, size)); why != api.ErrArg || len(b) > 0 {
				t.Errorf("P9.1: Protect(%+v, 0, %d bytes): %x, %v", h, size, b, why)
			}
		}
	}
}

func TestProtectRefusesNumbers(t *testing.T) {
	for _, h := range heads() {
		for _, n := range []uint64{api.MaxVar + 1, api.MaxVar + 2, 1 << 63, math.MaxUint64 - 5, math.MaxUint64} {
			if b, why := Protect(keys(), h, n, make([]byte, 20)); why != api.ErrArg || len(b) > 0 {
				t.Errorf("P9.1: Protect(%+v, %x, 20 bytes): %x, %v", h, n, b, why)
			}
		}
	}
}

// TestProtectRefusesSizes goes through every length of a payload, past the least and the greatest that a head leaves room for.
func TestProtectRefusesSizes(t *testing.T) {
	for _, h := range heads() {
		room := api.MaxDatagram - head.Size(h) - h.Width - api.TagLen
		for size := range api.MaxDatagram + 20 {
			b, why := Protect(keys(), h, 5, make([]byte, size))
			if size < 4-h.Width || size > room {
				if why != api.ErrArg || len(b) > 0 {
					t.Errorf("P9.1: Protect(%+v, 5, %d bytes): %d bytes, %v", h, size, len(b), why)
				}
				continue
			}
			if why != api.OK || len(b) != api.MaxDatagram-room+size {
				t.Errorf("P9.1: Protect(%+v, 5, %d bytes): %d bytes, %v", h, size, len(b), why)
			}
			is(t, "P9.3", keys(), b, 4, true, h, 5, make([]byte, size))
		}
		for _, size := range []int{16383 - h.Width - api.TagLen, 16384 - h.Width - api.TagLen, 16383, 16384, 65536, 65540, 1 << 20} {
			if b, why := Protect(keys(), h, 5, make([]byte, size)); why != api.ErrArg || len(b) > 0 {
				t.Errorf("P9.1: Protect(%+v, 5, %d bytes): %d bytes, %v", h, size, len(b), why)
			}
		}
	}
	// The chapter's example 1.
	if b, why := Protect(keys(), data(1, false), 0, []byte("a")); why != api.ErrArg || len(b) > 0 {
		t.Errorf("P9.1: Protect of 1 byte by Width 1: %x, %v", b, why)
	}
}

func TestTheNumberIsMadeWhole(t *testing.T) {
	payload := []byte("payload")
	for _, c := range []struct {
		n       uint64
		width   int
		largest uint64
		has     bool
		made    bool
	}{
		{0, 1, 0, false, true}, {127, 1, 0, false, true}, {128, 1, 0, false, true}, {129, 1, 0, false, true}, {255, 1, 0, false, true}, {256, 1, 0, false, false},
		{128, 1, 0, true, true}, {300, 1, 299, true, true}, {300, 1, 300, true, true}, {300, 1, 171, true, true}, {300, 1, 170, true, false}, {300, 1, 426, true, true}, {300, 1, 427, true, false},
		{65536, 2, 65535, true, true}, {65536, 2, 32767, true, true}, {65536, 2, 32766, true, false}, {65535, 2, 0, false, true}, {65536, 2, 0, false, false},
		{1 << 24, 3, 1<<23 - 1, true, true}, {1 << 24, 3, 1<<23 - 2, true, false},
		{1 << 40, 4, 1<<40 - 1<<31 - 1, true, true}, {1 << 40, 4, 1<<40 - 1<<31 - 2, true, false}, {1 << 40, 4, 0, false, false}, {1 << 40, 4, 0, true, false},
		{0xa82f9b32, 2, 0xa82f30ea, true, true}, {api.MaxVar, 1, api.MaxVar, true, true}, {api.MaxVar, 4, math.MaxUint64, true, true}, {api.MaxVar, 2, api.MaxVar - 5, true, true}, {api.MaxVar, 1, 5, true, false},
		{5, 1, 300, false, true}, {300, 1, 299, false, false}, // largest counts only where one has come
	} {
		for _, h := range []api.Head{initial(c.width, "token"), handshake(c.width), data(c.width, true)} {
			if got := pnum.Whole(c.largest, c.has, pnum.Cut(c.n, c.width), c.width) == c.n; got != c.made {
				t.Fatalf("%d by %d bytes behind %d, %t: that Whole makes it is %t", c.n, c.width, c.largest, c.has, got)
			}
			b, _ := Protect(keys(), h, c.n, payload)
			if c.made {
				is(t, "P9.3", keys(), b, c.largest, c.has, h, c.n, payload)
			} else {
				noPacket(t, "of another number", keys(), b, c.largest, c.has, api.ErrSeal)
			}
			reveals(t, "P9.2", keys(), b, h, pnum.Cut(c.n, c.width))
		}
	}
}

// TestNumbersBehindMaxVar: Protect seals none, but what Whole makes is the number, whichever it is.
func TestNumbersBehindMaxVar(t *testing.T) {
	h := data(1, false)
	b := sealed(keys(), h, api.MaxVar+1, []byte("payload"), 0)
	is(t, "P9.2", keys(), b, api.MaxVar, true, h, api.MaxVar+1, []byte("payload"))
}

func TestOtherKeys(t *testing.T) {
	payload := []byte("payload")
	for _, h := range heads() {
		b, _ := Protect(keys(), h, 5, payload)
		for bit := range 64 {
			k := keys()
			k.Seal ^= 1 << bit
			noPacket(t, "by another key", k, b, 4, true, api.ErrSeal)
			reveals(t, "P9.2: by the same mask", k, b, h, 5)
			// By another mask a packet can look like another one, or by chance like itself; never like nothing.
			k = keys()
			k.Mask ^= 1 << bit
			g, low, why := Reveal(k, b)
			if why != api.OK {
				t.Errorf("P9.2: Reveal by another mask: %v", why)
			}
			if same(g, h) && low == 5 {
				is(t, "P9.2", k, b, 4, true, h, 5, payload)
			} else if _, _, _, why := Unprotect(k, b, 4, true); why != api.ErrSeal {
				t.Errorf("P9.2: Unprotect by another mask: %v", why)
			}
		}
		noPacket(t, "by keys that are swapped", lock.Keys{Seal: keys().Mask, Mask: keys().Seal}, b, 4, true, api.ErrSeal)
		noPacket(t, "by zero keys", lock.Keys{}, b, 4, true, api.ErrSeal)
	}
}

// TestEveryTurnedBit: what is left whole enough to be parsed is not opened, be it a bit that must be 0.
func TestEveryTurnedBit(t *testing.T) {
	for _, h := range heads() {
		b, _ := Protect(keys(), h, 5, []byte("a payload of bytes"))
		for bit := range 8 * len(b) {
			b[bit/8] ^= 1 << (bit % 8)
			if _, _, _, why := head.Parse(b); why != api.OK {
				none(t, "with a bit turned", b)
			} else {
				noPacket(t, "with a bit turned", keys(), b, 4, true, api.ErrSeal)
			}
			b[bit/8] ^= 1 << (bit % 8)
		}
		is(t, "P9.3: nothing turned", keys(), b, 4, true, h, 5, []byte("a payload of bytes"))
	}
}

func TestBitsThatMustBeZero(t *testing.T) {
	for _, h := range heads() {
		odds := []byte{4, 8, 12}
		if h.Space == api.Data {
			odds = []byte{8, 16, 24}
		}
		for _, odd := range odds {
			for secret := range uint64(20) {
				k := lock.Of(secret)
				b := sealed(k, h, 5, []byte("payload"), odd)
				noPacket(t, "with bits that must be 0", k, b, 4, true, api.ErrCorrupt)
				reveals(t, "P9.2: with bits that must be 0", k, b, h, 5)
				// The seal is asked first.
				noPacket(t, "with bits that must be 0, by another key", lock.Keys{Seal: k.Seal + 1, Mask: k.Mask}, b, 4, true, api.ErrSeal)
				noPacket(t, "with bits that must be 0, of another number", k, b, 1<<50, true, api.ErrSeal)
				b[len(b)-1] ^= 1
				noPacket(t, "with bits that must be 0, and one turned", k, b, 4, true, api.ErrSeal)
			}
		}
	}
}

// TestOtherBitsOfDatasFirstByte: of the bit 32 nothing is asked, but that it is sealed with.
func TestOtherBitsOfDatasFirstByte(t *testing.T) {
	for _, h := range []api.Head{data(1, false), data(4, true)} {
		b := sealed(keys(), h, 5, []byte("payload"), 32)
		is(t, "P9.2: with 32", keys(), b, 4, true, h, 5, []byte("payload"))
		b[0] ^= 32
		noPacket(t, "with 32 turned", keys(), b, 4, true, api.ErrSeal)
	}
}

func TestRefusedWhereParseRefuses(t *testing.T) {
	none(t, "of nothing", nil)
	none(t, "of nothing", []byte{})
	none(t, "of rubbish", []byte("rubbish"))
	none(t, "of zeros", make([]byte, 40))
	for _, h := range heads() {
		b, _ := Protect(keys(), h, 5, []byte("a payload of bytes"))
		at := head.Size(h)
		for k := range b {
			if h.Space != api.Data || k < at+12 {
				none(t, "of the first bytes", b[:k])
				continue
			}
			noPacket(t, "of the first bytes", keys(), b[:k], 4, true, api.ErrSeal)
			if n, ok := Cut(b[:k]); n != k || !ok {
				t.Errorf("P9.2: Cut of %x: %d, %t", b[:k], n, ok)
			}
		}
	}
	b, _ := Protect(keys(), handshake(1), 5, []byte("payload"))
	for _, c := range []struct {
		at   int
		want byte
	}{{0, b[0] &^ 64}, {0, b[0] | 32}, {1, 1}, {4, 2}, {5, 7}, {14, 9}} {
		y := bytes.Clone(b)
		y[c.at] = c.want
		none(t, "of a head that may not be", y)
	}
}

func TestFewestBytes(t *testing.T) {
	// Of twelve bytes behind the head, the number may be four and the tag all else.
	for _, h := range []api.Head{initial(4, ""), handshake(4), data(4, true)} {
		b, _ := Protect(keys(), h, 5, nil)
		is(t, "P9.3: of no payload", keys(), b, 4, true, h, 5, nil)
		if n, ok := Cut(b); n != head.Size(h)+12 || !ok {
			t.Errorf("P9.2: Cut of %x: %d, %t", b, n, ok)
		}
	}
}

func TestSeveralInOne(t *testing.T) {
	type one struct {
		h       api.Head
		n       uint64
		payload string
	}
	all := []one{{initial(2, "tok"), 7, "the first of all"}, {with(handshake(3), "To", from()), 1 << 20, "second"}, {initial(1, ""), 0, "abc"}, {data(4, true), 300, "the last"}}
	var b []byte
	var sizes []int
	for _, c := range all {
		p, _ := Protect(keys(), c.h, c.n, []byte(c.payload))
		b = append(b, p...)
		sizes = append(sizes, len(p))
	}
	for i, c := range all {
		reveals(t, "P9.2: several in one", keys(), b, c.h, pnum.Cut(c.n, c.h.Width))
		is(t, "P9.2: several in one", keys(), b, c.n, true, c.h, c.n, []byte(c.payload))
		n, ok := Cut(b)
		if n != sizes[i] || !ok {
			t.Fatalf("P9.2: Cut, packet %d of several: %d, %t, not %d", i, n, ok, sizes[i])
		}
		b = b[n:]
	}
	none(t, "behind the last one", b)
	// Data takes all that is left: what is put behind it is not sealed.
	b, _ = Protect(keys(), data(1, false), 5, []byte("payload"))
	b = append(b, "more"...)
	if n, ok := Cut(b); n != len(b) || !ok {
		t.Errorf("P9.2: Cut of Data, and more: %d, %t", n, ok)
	}
	noPacket(t, "of Data, and more", keys(), b, 4, true, api.ErrSeal)
}

// TestHeadsThatEncodeDoesNotWrite: a token's and a packet's length of other sizes are sealed with as they come.
func TestHeadsThatEncodeDoesNotWrite(t *testing.T) {
	const ahead = "\x00\x00\x00\x01" + "\x08\x01\x02\x03\x04\x05\x06\x07\x08" + "\x08\x09\x08\x07\x06\x05\x04\x03\x02"
	payload := []byte("payload")
	for width := 1; width <= 4; width++ {
		first, n := byte(width-1), byte(width+len(payload)+api.TagLen)
		for _, size := range [][]byte{{n}, {64, n}, {128, 0, 0, n}, {192, 0, 0, 0, 0, 0, 0, n}} {
			b := append(append([]byte{192 | 16 | first}, ahead...), size...)
			b = sealedBehind(keys(), b, api.Handshake, width, 300, payload)
			is(t, "P9.2: lengths of other sizes", keys(), b, 299, true, handshake(width), 300, payload)
			reveals(t, "P9.2: lengths of other sizes", keys(), b, handshake(width), pnum.Cut(300, width))
			is(t, "P9.2: and more", keys(), append(b, "more"...), 299, true, handshake(width), 300, payload)
			for _, token := range []string{"\x03tok", "\x40\x03tok", "\x80\x00\x00\x03tok", "\xc0\x00\x00\x00\x00\x00\x00\x03tok"} {
				b := append(append([]byte{192 | first}, ahead+token...), size...)
				end := len(b) + int(n)
				b = sealedBehind(keys(), b, api.Initial, width, 300, payload)
				is(t, "P9.2: lengths of other sizes", keys(), b, 299, true, initial(width, "tok"), 300, payload)
				if n, ok := Cut(append(b, "more"...)); n != end || !ok {
					t.Errorf("P9.2: Cut, lengths of other sizes: %d, %t, not %d", n, ok, end)
				}
			}
		}
	}
}

func TestNilAndEmptyAreTheSame(t *testing.T) {
	h := api.Head{Space: api.Handshake, Width: 4}
	want, _ := Protect(keys(), h, 5, nil)
	if b, why := Protect(keys(), with(h, "Token", []byte{}), 5, []byte{}); why != api.OK || !bytes.Equal(b, want) {
		t.Errorf("R4: Protect of nil and empty: %x, %v, not %x", b, why, want)
	}
}

// piece is s with bytes about it: the room, and s in its middle.
func piece(s string) ([]byte, []byte) {
	room := []byte("......" + s + "............................................")
	return room, room[6 : 6+len(s)]
}

// unchanged tells of a piece, or what is about it, that is another.
func unchanged(t *testing.T, what string, room []byte, s string) {
	t.Helper()
	if string(room) != "......"+s+"............................................" {
		t.Errorf("R2: %s handed in is changed: %q", what, room)
	}
}

func TestWhatIsHandedInIsNotChanged(t *testing.T) {
	for _, space := range []int{api.Initial, api.Data} {
		tokenRoom, token := piece("token")
		h := data(2, true)
		if space == api.Initial {
			h = with(initial(2, ""), "Token", token)
		}
		payloadRoom, payload := piece("a payload of bytes")
		b, _ := Protect(keys(), h, 300, payload)
		if want := sealed(keys(), h, 300, []byte("a payload of bytes"), 0); !bytes.Equal(b, want) {
			t.Errorf("R5: Protect reads what stands about the pieces: %x, not %x", b, want)
		}
		unchanged(t, "Protect: the token", tokenRoom, "token")
		unchanged(t, "Protect: the payload", payloadRoom, "a payload of bytes")
		room, given := piece(string(b))
		is(t, "R5", keys(), given, 299, true, h, 300, []byte("a payload of bytes"))
		reveals(t, "R5", keys(), given, h, 300)
		noPacket(t, "by another key", lock.Keys{Seal: 1, Mask: keys().Mask}, given, 299, true, api.ErrSeal)
		if n, ok := Cut(given); n != len(b) || !ok {
			t.Errorf("R5: Cut reads what stands behind the piece: %d, %t", n, ok)
		}
		unchanged(t, "Unprotect, Reveal, Cut: the packet", room, string(b))
	}
	room, given := piece(string(sealed(keys(), data(1, false), 5, []byte("payload"), 8)))
	was := string(given)
	noPacket(t, "with a bit that must be 0", keys(), given, 4, true, api.ErrCorrupt)
	unchanged(t, "Unprotect: the packet", room, was)
	b := sealed(keys(), handshake(1), 5, []byte("payload"), 0)
	none(t, "R5: whose last byte is spare room", b[:len(b)-1])
	b = sealed(keys(), data(4, false), 5, nil, 0)
	none(t, "R5: whose last byte is spare room", b[:len(b)-1])
}

// spoil overwrites b to the end of its room.
func spoil(b []byte) {
	for i := range b[:cap(b)] {
		b[:cap(b)][i] = '!'
	}
}

func TestAnswersAreNewMemory(t *testing.T) {
	token, payload := []byte("token"), []byte("a payload of bytes")
	h := with(initial(2, ""), "Token", token)
	want := sealed(keys(), h, 300, payload, 0)
	b, _ := Protect(keys(), h, 300, payload)
	spoil(b)
	if string(token) != "token" || string(payload) != "a payload of bytes" {
		t.Errorf("R2: what Protect answers shares memory: %q, %q", token, payload)
	}
	b, _ = Protect(keys(), h, 300, payload)
	spoil(token)
	spoil(payload)
	if !bytes.Equal(b, want) {
		t.Errorf("R2: Protect keeps what was handed in: %x, not %x", b, want)
	}
	revealed, _, _ := Reveal(keys(), b)
	opened, _, body, _ := Unprotect(keys(), b, 299, true)
	spoil(revealed.Token)
	if !bytes.Equal(b, want) || string(opened.Token) != "token" {
		t.Errorf("R2: what Reveal answers shares memory: %x, %q", b, opened.Token)
	}
	spoil(opened.Token)
	if !bytes.Equal(b, want) || string(body) != "a payload of bytes" {
		t.Errorf("R2: what Unprotect answers shares memory: %x, %q", b, body)
	}
	opened, _, body, _ = Unprotect(keys(), b, 299, true)
	spoil(body)
	if !bytes.Equal(b, want) || string(opened.Token) != "token" {
		t.Errorf("R2: what Unprotect answers shares memory: %x, %q", b, opened.Token)
	}
	opened, _, body, _ = Unprotect(keys(), b, 299, true)
	revealed, _, _ = Reveal(keys(), b)
	spoil(b)
	if string(opened.Token) != "token" || string(body) != "a payload of bytes" || string(revealed.Token) != "token" {
		t.Errorf("R2: what was handed in is kept: %q, %q, %q", opened.Token, body, revealed.Token)
	}
}

// TestRubbish: every row of bytes is refused, and as Parse refuses it.
func TestRubbish(t *testing.T) {
	q := rand.New(rand.NewSource(9))
	parsed := 0
	for i := range 40000 {
		b := make([]byte, q.Intn(80))
		q.Read(b)
		if i%3 == 0 && len(b) > 40 { // a head, and rubbish behind it
			ahead, _ := head.Encode(heads()[q.Intn(len(heads()))], 12+q.Intn(10))
			copy(b, ahead)
		}
		h, _, end, why := head.Parse(b)
		if n, ok := Cut(b); n != end || ok != (why == api.OK) {
			t.Fatalf("P9.2: Cut of %x: %d, %t, where Parse says %d, %v", b, n, ok, end, why)
		}
		if why != api.OK {
			none(t, "of rubbish", b)
			continue
		}
		parsed++
		g, _, why := Reveal(keys(), b)
		if why != api.OK || !head.Right(g) || !same(with(with(g, "Width", 1), "Phase", false), h) {
			t.Fatalf("P9.2: Reveal of %x: %+v, %v, where Parse says %+v", b, g, why, h)
		}
		noPacket(t, "of rubbish", keys(), b, q.Uint64(), i%2 == 0, api.ErrSeal)
	}
	if parsed < 5000 {
		t.Errorf("only %d could be parsed", parsed)
	}
}
