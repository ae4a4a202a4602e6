package lock

import (
	"bytes"
	"encoding/binary"
	"encoding/hex"
	"math"
	"math/rand"
	"testing"

	"narthex/api"
	"narthex/mix"
)

// sealing is what one Seal is asked.
type sealing struct {
	key, n     uint64
	head, body []byte
}

// wantSeal is P8.2's Seal by the chapter's words.
func wantSeal(s sealing) []byte {
	n := binary.BigEndian.AppendUint64(nil, s.n)
	var hidden []byte
	for i, x := range s.body {
		block := mix.Keyed(s.key, binary.BigEndian.AppendUint64(n[:8:8], uint64(i/8)))
		hidden = append(hidden, x^binary.BigEndian.AppendUint64(nil, block)[i%8])
	}
	row := binary.BigEndian.AppendUint64(n[:8:8], uint64(len(s.head)))
	row = append(append(row, s.head...), hidden...)
	return binary.BigEndian.AppendUint64(hidden, mix.Keyed(mix.Keyed(s.key, []byte("tag")), row))
}

// sealings go over the edges of keys and numbers, and over lengths on both sides of a block, of a tag and of a datagram.
func sealings() []sealing {
	r := rand.New(rand.NewSource(8))
	random := func(n int) []byte {
		b := make([]byte, n)
		r.Read(b)
		return b
	}
	var l []sealing
	for _, n := range []uint64{0, 1, 255, 256, 1 << 32, api.MaxVar, api.MaxVar + 1, 1 << 63, math.MaxUint64} {
		l = append(l, sealing{n, 7, []byte("head"), []byte("a body of bytes")}, sealing{7, n, []byte("head"), []byte("a body of bytes")}, sealing{n, n, nil, nil})
	}
	for n := range 34 {
		l = append(l, sealing{r.Uint64(), r.Uint64(), random(n), random(33 - n)}, sealing{r.Uint64(), uint64(n), nil, random(n)}, sealing{r.Uint64(), uint64(n), random(n), nil})
	}
	for _, n := range []int{255, 256, 257, 511, 512, 513, 2047, 2048, 2049, 5000} {
		l = append(l, sealing{r.Uint64(), r.Uint64(), random(n), random(9)}, sealing{r.Uint64(), r.Uint64(), random(9), random(n)}, sealing{r.Uint64(), 3, nil, make([]byte, n)})
	}
	return l
}

// refused tells of an Open that must answer nothing, false.
func refused(t *testing.T, what string, key, n uint64, head, sealed []byte) {
	t.Helper()
	if body, ok := Open(key, n, head, sealed); ok || len(body) > 0 {
		t.Errorf("P8.2: Open %s: %x, %t", what, body, ok)
	}
}

func TestDeriveOfKnownSecrets(t *testing.T) {
	for _, c := range []struct {
		secret uint64
		label  string
		want   uint64
	}{
		{0, "", 0xca009717f87d8879},
		{5, "", 0x8bf7c0cf5039ae8c},
		{5, "label", 0xf3891281a8809a17},
		{0, "seal", 0xa2f63cc84cf61017},
		{math.MaxUint64, "mask", 0x223b907490baf082},
		{1 << 63, "next", 0x74739b730129b63f},
		{0x0123456789abcdef, "tag", 0x4293b42153561a15},
		{7, "\xff\x00\xc3", 0x33109a721e1f0a57}, // a label is bytes, which need not be text
	} {
		if got := Derive(c.secret, c.label); got != c.want || got != mix.Keyed(c.secret, []byte(c.label)) {
			t.Errorf("P8.1: Derive(%x, %q): %x, not %x", c.secret, c.label, got, c.want)
		}
	}
}

func TestKeysOfKnownSecrets(t *testing.T) {
	for _, c := range []struct {
		secret uint64
		keys   Keys
		next   uint64
	}{
		{0, Keys{0xa2f63cc84cf61017, 0x1a3d0def4ff10499}, 0xef5ed467e6ca756d},
		{1, Keys{0x00dcafc06688f428, 0xda1c8a3c89c1b36a}, 0x70268a6c5c5eb675},
		{9, Keys{0x8178416b34be6a47, 0x784b5f93f65cf523}, 0x46a71061a93318e8},
		{math.MaxUint64, Keys{0x935ea16c8fe4287d, 0x223b907490baf082}, 0x6080e9858c17d5d3},
		{0x0123456789abcdef, Keys{0x4dcb65496bc5e4ad, 0x4bd2f2e0e365b713}, 0xcc4f068947940e36},
	} {
		if got := Of(c.secret); got != c.keys {
			t.Errorf("P8.1: Of(%x): %x, not %x", c.secret, got, c.keys)
		}
		if got := Next(c.secret); got != c.next {
			t.Errorf("P8.1: Next(%x): %x, not %x", c.secret, got, c.next)
		}
	}
}

func TestNextGoesOn(t *testing.T) {
	seen := map[uint64]bool{}
	for secret, i := uint64(5), 0; i < 2000; i++ {
		if seen[secret] {
			t.Fatalf("P8.1: Next comes to %x again behind %d steps", secret, i)
		}
		seen[secret] = true
		secret = Next(secret)
	}
}

func TestSealOfKnownRows(t *testing.T) {
	for _, c := range []struct {
		key, n     uint64
		head, body string
		want       string
	}{
		{0, 0, "", "", "afdce7fd12ced2b7"},
		{5, 6, "", "", "b7e99847f5ec05fe"}, // the chapter's example 1: of nothing, a tag
		{5, 6, "a", "c", "05" + "4f946bff81dc82c5"},
		{5, 6, "ab", "c", "05" + "423706a5986d1a87"},
		{5, 6, "", "abc", "073e83" + "d7ef3a63c767cc21"},
		{5, 6, "head", "12345678", "576ed3baca2dd402" + "7730ce57968863ed"},
		{5, 6, "head", "123456789", "576ed3baca2dd402a6" + "7fa18ff68afe78de"},
		{math.MaxUint64, math.MaxUint64, "\xff\xff\xff\xff\xff\xff\xff\xff\xff", string(make([]byte, 17)), "e81a6ad1bfcf44860f5099599b4e60907d" + "2c36cb90d1c3a34b"},
		{0x0123456789abcdef, api.MaxVar, "the head", "sealed bytes, of three blocks", "e417eb2ef07fa97efbf9941baa659c830ff3b078927ebccf81402facd4" + "0c96df5e128561b2"},
	} {
		got := Seal(c.key, c.n, []byte(c.head), []byte(c.body))
		if hex.EncodeToString(got) != c.want {
			t.Errorf("P8.2: Seal(%x, %x, %q, %q): %x, not %s", c.key, c.n, c.head, c.body, got, c.want)
		}
		sealed, _ := hex.DecodeString(c.want)
		if body, ok := Open(c.key, c.n, []byte(c.head), sealed); !ok || string(body) != c.body {
			t.Errorf("P8.2: Open(%x, %x, %q, %s): %q, %t", c.key, c.n, c.head, c.want, body, ok)
		}
	}
}

func TestSealOfManyBlocks(t *testing.T) {
	body := make([]byte, 2048+24)
	for i := range body {
		body[i] = byte(i * 7)
	}
	got := Seal(3, 4, []byte("h"), body)
	if hex.EncodeToString(got[2040:2064]) != "b64b65605b60369c2953f4450213ca85cda0c883c9436772" || hex.EncodeToString(got[len(body):]) != "f52676af6b3bbf62" {
		t.Errorf("P8.2: Seal of %d bytes: .. %x .. %x", len(body), got[2040:2064], got[len(body):])
	}
	// 2^16 blocks and more: the place of one is told in all its eight bytes.
	body = make([]byte, 524288+16)
	got = Seal(3, 4, nil, body)
	if hex.EncodeToString(got[524280:524296]) != "21fe19e81e57bf99baef9470e472d74d" {
		t.Errorf("P8.2: Seal of %d bytes: .. %x ..", len(body), got[524280:524296])
	}
	if back, ok := Open(3, 4, nil, got); !ok || !bytes.Equal(back, body) {
		t.Errorf("P8.3: Open of %d bytes: %d, %t", len(got), len(back), ok)
	}
}

func TestSealByTheChaptersWords(t *testing.T) {
	for i, s := range sealings() {
		got, want := Seal(s.key, s.n, s.head, s.body), wantSeal(s)
		if len(got) != len(s.body)+api.TagLen || !bytes.Equal(got, want) {
			t.Errorf("P8.2: Seal, case %d, of %d and %d bytes: %x, not %x", i, len(s.head), len(s.body), got, want)
		}
	}
}

func TestOpenOfSealIsTheBody(t *testing.T) {
	for i, s := range sealings() {
		if body, ok := Open(s.key, s.n, s.head, Seal(s.key, s.n, s.head, s.body)); !ok || !bytes.Equal(body, s.body) {
			t.Errorf("P8.3: Open of Seal, case %d, of %d and %d bytes: %x, %t", i, len(s.head), len(s.body), body, ok)
		}
		if body, ok := Open(s.key, s.n, s.head, wantSeal(s)); !ok || !bytes.Equal(body, s.body) {
			t.Errorf("P8.2: Open, case %d, of %d and %d bytes: %x, %t", i, len(s.head), len(s.body), body, ok)
		}
	}
}

func TestNilAndEmptyAreTheSame(t *testing.T) {
	want := Seal(5, 6, nil, nil)
	for _, head := range [][]byte{nil, {}} {
		for _, body := range [][]byte{nil, {}} {
			if got := Seal(5, 6, head, body); !bytes.Equal(got, want) {
				t.Errorf("R4: Seal of nil and empty: %x, not %x", got, want)
			}
		}
		if body, ok := Open(5, 6, head, want); !ok || len(body) > 0 {
			t.Errorf("P8.3: Open of a tag alone: %x, %t", body, ok)
		}
		refused(t, "of nil", 5, 6, head, nil)
		refused(t, "of an empty list", 5, 6, head, []byte{})
	}
}

func TestOpenOfFewerBytesThanATag(t *testing.T) {
	tag := Seal(5, 6, nil, nil)
	for n := range api.TagLen { // the chapter's example 2 is 7
		refused(t, "of the first bytes of a tag", 5, 6, nil, tag[:n])
		refused(t, "of the last bytes of a tag", 5, 6, nil, tag[api.TagLen-n:])
		refused(t, "of zeros", 5, 6, nil, make([]byte, n))
	}
}

func TestOpenRefusesWhatIsCut(t *testing.T) {
	s := sealing{5, 6, []byte("head"), []byte("a body of more than two blocks")}
	sealed := Seal(s.key, s.n, s.head, s.body)
	for n := range len(sealed) {
		refused(t, "of the first bytes", s.key, s.n, s.head, sealed[:n])
		refused(t, "of the last bytes", s.key, s.n, s.head, sealed[len(sealed)-n:])
	}
	for _, x := range []byte{0, 1, 255} {
		refused(t, "with a byte behind", s.key, s.n, s.head, append(bytes.Clone(sealed), x))
		refused(t, "with a byte ahead", s.key, s.n, s.head, append([]byte{x}, sealed...))
	}
}

func TestOpenRefusesEveryTurnedBit(t *testing.T) {
	s := sealing{5, 6, []byte("head"), []byte("a body of more than two blocks")}
	sealed := Seal(s.key, s.n, s.head, s.body)
	for bit := range 8 * len(sealed) {
		sealed[bit/8] ^= 1 << (bit % 8)
		refused(t, "with a bit turned", s.key, s.n, s.head, sealed)
		sealed[bit/8] ^= 1 << (bit % 8)
	}
	for bit := range 8 * len(s.head) {
		s.head[bit/8] ^= 1 << (bit % 8)
		refused(t, "with a bit of its head turned", s.key, s.n, s.head, sealed)
		s.head[bit/8] ^= 1 << (bit % 8)
	}
	for bit := range 64 {
		refused(t, "by another key", s.key^1<<bit, s.n, s.head, sealed)
		refused(t, "by another number", s.key, s.n^1<<bit, s.head, sealed)
	}
	if body, ok := Open(s.key, s.n, s.head, sealed); !ok || !bytes.Equal(body, s.body) {
		t.Errorf("P8.3: Open, nothing turned: %x, %t", body, ok)
	}
}

func TestHeadAndBodyAreTwo(t *testing.T) {
	sealed := Seal(5, 6, []byte("he"), []byte("a body"))
	// One row of bytes all the same, but for where the head ends.
	refused(t, "with a byte moved to the head", 5, 6, append([]byte("he"), sealed[0]), sealed[1:])
	refused(t, "with a byte moved from the head", 5, 6, []byte("h"), append([]byte("e"), sealed...))
	refused(t, "with no head", 5, 6, nil, sealed)
	refused(t, "with a longer head", 5, 6, []byte("he\x00"), sealed)
	refused(t, "with its head ahead of it", 5, 6, nil, append([]byte("he"), sealed...))
}

func TestNumberAndPlaceHideUnlike(t *testing.T) {
	// Of zeros what is sealed is the row that hides: no block of it comes twice, whichever number it is of.
	seen := map[string]bool{}
	for n := range uint64(20) {
		row := Seal(5, n, nil, make([]byte, 512))
		for i := 0; i < 512; i += 8 {
			if seen[string(row[i:i+8])] {
				t.Fatalf("P8.2: block %d of number %d comes twice: %x", i/8, n, row[i:i+8])
			}
			seen[string(row[i:i+8])] = true
		}
	}
}

func TestWhatIsHandedInIsNotChanged(t *testing.T) {
	// The piece in the middle is handed in; the dots are its spare room, and what stands ahead of it.
	piece := func(s string) ([]byte, []byte) {
		room := append(append([]byte("......"), s...), "............................"...)
		return room, room[6 : 6+len(s)]
	}
	whole := func(what string, room []byte, s string) {
		t.Helper()
		if string(room) != "......"+s+"............................" {
			t.Errorf("R2: %s handed in is changed: %q", what, room)
		}
	}
	headRoom, head := piece("head")
	bodyRoom, body := piece("a body of bytes")
	sealed := Seal(5, 6, head, body)
	whole("Seal: the head", headRoom, "head")
	whole("Seal: the body", bodyRoom, "a body of bytes")
	if want := Seal(5, 6, []byte("head"), []byte("a body of bytes")); !bytes.Equal(sealed, want) {
		t.Errorf("R5: Seal reads what stands about the pieces: %x, not %x", sealed, want)
	}
	sealedRoom, given := piece(string(sealed))
	if got, ok := Open(5, 6, head, given); !ok || string(got) != "a body of bytes" {
		t.Errorf("R5: Open reads what stands about the pieces: %q, %t", got, ok)
	}
	refused(t, "by another key", 4, 6, head, given)
	whole("Open: the head", headRoom, "head")
	whole("Open: what is sealed", sealedRoom, string(sealed))
}

func TestAnswersAreNewMemory(t *testing.T) {
	head, body := []byte("head"), []byte("a body of bytes")
	sealed, want := Seal(5, 6, head, body), Seal(5, 6, head, body)
	opened, _ := Open(5, 6, head, sealed)
	again, _ := Open(5, 6, head, sealed)
	for _, b := range [][]byte{opened, again} { // to the end of their room
		for i := range b[:cap(b)] {
			b[:cap(b)][i] = '!'
		}
		if !bytes.Equal(sealed, want) || string(head) != "head" {
			t.Fatalf("R2: what Open answers shares memory: %x, %q", sealed, head)
		}
	}
	for i := range sealed[:cap(sealed)] {
		sealed[:cap(sealed)][i] = '!'
	}
	if string(body) != "a body of bytes" || string(head) != "head" || !bytes.Equal(Seal(5, 6, head, body), want) {
		t.Errorf("R2: what Seal answers shares memory: %q, %q", head, body)
	}
	first, _ := Open(5, 6, head, want)
	for i := range want {
		want[i] = '!'
	}
	if string(first) != "a body of bytes" {
		t.Errorf("R2: Open keeps what was handed in: %q", first)
	}
}

func TestOneListAsHeadAndBody(t *testing.T) {
	b := []byte("both a head and a body")
	sealed := Seal(5, 6, b, b)
	if body, ok := Open(5, 6, b, sealed); !ok || !bytes.Equal(body, b) || string(b) != "both a head and a body" {
		t.Errorf("P8.3: Open of Seal by one list: %q, %t", body, ok)
	}
	tag := Seal(5, 6, nil, nil)
	refused(t, "by itself as its head", 5, 6, tag, tag)
}

func TestMaskOfKnownSamples(t *testing.T) {
	for _, c := range []struct {
		key    uint64
		sample [8]byte
		want   [5]byte
	}{
		{0, [8]byte{}, [5]byte{0x42, 0xad, 0x91, 0xb5, 0x37}},
		{9, [8]byte{1, 2, 3, 4, 5, 6, 7, 8}, [5]byte{0x30, 0xe5, 0x6a, 0xfc, 0x53}},
		{9, [8]byte{1, 2, 3, 4, 5, 6, 7, 9}, [5]byte{0x19, 0x5e, 0x86, 0x3b, 0xbb}},
		{math.MaxUint64, [8]byte{255, 255, 255, 255, 255, 255, 255, 255}, [5]byte{0x30, 0x11, 0x5c, 0x38, 0x83}},
		{0x0123456789abcdef, [8]byte([]byte("a sample")), [5]byte{0x96, 0x3e, 0x6b, 0x18, 0xbb}},
	} {
		given := c.sample
		if got := Mask(c.key, given); got != c.want || given != c.sample {
			t.Errorf("P8.2: Mask(%x, %x): %x, not %x", c.key, c.sample, got, c.want)
		}
	}
}

func TestMaskIsTheFirstFive(t *testing.T) {
	r := rand.New(rand.NewSource(9))
	for range 500 {
		key := r.Uint64() >> r.Intn(64)
		var sample [8]byte
		r.Read(sample[:])
		want := binary.BigEndian.AppendUint64(nil, mix.Keyed(key, sample[:]))[:5]
		if got := Mask(key, sample); !bytes.Equal(got[:], want) {
			t.Errorf("P8.2: Mask(%x, %x): %x, not %x", key, sample, got, want)
		}
	}
}
