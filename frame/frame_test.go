package frame

import (
	"bytes"
	"maps"
	"math"
	"math/rand"
	"reflect"
	"slices"
	"strings"
	"testing"

	"narthex/api"
	"narthex/bits"
)

// kinds are those of api, and the fields that each asks.
func kinds() map[int]string {
	return map[int]string{
		api.Padding: "", api.Ping: "", api.Done: "",
		api.Ack: "Delay Ranges", api.Reset: "Stream Code Final", api.Stop: "Stream Code", api.Crypto: "Offset Data",
		api.Stream: "Stream Offset Data Fin", api.MaxData: "Limit", api.MaxStreamData: "Stream Limit", api.MaxStreamsOf: "Limit",
		api.Blocked: "Limit", api.NewCID: "Seq Limit CID", api.Retire: "Seq", api.Challenge: "CID", api.Response: "CID",
		api.Close: "Code Data",
	}
}

// wrongKinds are some that are none of api's; the last ones end in a Kind's bits.
func wrongKinds() []int {
	l := []int{math.MinInt, -256, -30, -1, 3, 7, 9, 10, 11, 12, 13, 14, 15, 19, 21, 22, 23, 29, 31, 32, 33, 62, 64, 128, 255}
	return append(l, 256+api.Ping, 1<<16+api.Stream, 1<<32+api.Ping, 1<<62+api.Ack, math.MaxInt)
}

// fields are the names of a Frame's fields but its Kind.
func fields() []string {
	var l []string
	t := reflect.TypeFor[api.Frame]()
	for i := range t.NumField() {
		if name := t.Field(i).Name; name != "Kind" {
			l = append(l, name)
		}
	}
	return l
}

// asksFor is whether a frame of that Kind asks the field.
func asksFor(kind int, field string) bool {
	return slices.Contains(strings.Fields(kinds()[kind]), field)
}

// full is a Right frame of that Kind with a value in each field, asked or not.
func full(kind int) api.Frame {
	return api.Frame{
		Kind: kind, Stream: 4, Offset: 70, Data: []byte("data"), Fin: true, Limit: 5, Code: 6, Final: 700, Seq: 8, Delay: 9,
		Ranges: []api.Range{{Lo: 1, Hi: 3}, {Lo: 7, Hi: 8}}, CID: api.CID{1, 2, 3, 4, 5, 6, 7, 8},
	}
}

// with is f with another value in that field.
func with(f api.Frame, field string, x any) api.Frame {
	reflect.ValueOf(&f).Elem().FieldByName(field).Set(reflect.ValueOf(x))
	return f
}

// others are full's fields with other values, each of them still Right where it is asked.
func others() map[string][]any {
	return map[string][]any{
		"Stream": {uint64(0), uint64(5), uint64(api.MaxVar)}, "Offset": {uint64(0), uint64(71), uint64(api.MaxOffset - 4)},
		"Data": {[]byte(nil), []byte("dat"), []byte("datb"), []byte("data.")}, "Fin": {false},
		"Limit": {uint64(0), uint64(4), uint64(6)}, "Code": {uint64(0), uint64(7), uint64(api.MaxVar)},
		"Final": {uint64(0), uint64(701), uint64(api.MaxOffset)}, "Seq": {uint64(5), uint64(9), uint64(api.MaxVar)},
		"Delay": {uint64(0), uint64(10), uint64(api.MaxVar)}, "CID": {api.CID{}, api.CID{1, 2, 3, 4, 5, 6, 7, 9}, api.CID{0, 2, 3, 4, 5, 6, 7, 8}},
		"Ranges": {[]api.Range{{Lo: 1, Hi: 3}}, []api.Range{{Lo: 7, Hi: 8}}, []api.Range{{Lo: 1, Hi: 3}, {Lo: 7, Hi: 9}}, []api.Range{{Lo: 0, Hi: 3}, {Lo: 7, Hi: 8}}, []api.Range{{Lo: 1, Hi: 3}, {Lo: 5, Hi: 6}, {Lo: 7, Hi: 8}}},
	}
}

// wrongs are values that no Kind that asks the field may have.
func wrongs() map[string][]any {
	big := []any{uint64(api.MaxVar + 1), uint64(1 << 63), uint64(math.MaxUint64)}
	long := append([]any{uint64(api.MaxOffset + 1)}, big...)
	return map[string][]any{
		"Stream": big, "Code": big, "Seq": big, "Delay": big, "Limit": big, "Offset": long, "Final": long,
		"Data":   {make([]byte, api.MaxDatagram+1), make([]byte, 1<<16)},
		"Ranges": {[]api.Range(nil), []api.Range{{Lo: 5, Hi: 5}}},
	}
}

// spread is n ranges of one number each, as near as they may be.
func spread(n int) []api.Range {
	var l []api.Range
	for i := range uint64(n) {
		l = append(l, api.Range{Lo: 2 * i, Hi: 2*i + 1})
	}
	return l
}

// refused is whether no call takes f.
func refused(f api.Frame) bool {
	b, why := Encode(f)
	return !Right(f) && Size(f) == 0 && why == api.ErrArg && len(b) == 0
}

// taken is whether every call takes f, and f comes back.
func taken(f api.Frame) bool {
	b, why := Encode(f)
	back, n, no := Decode(b)
	return Right(f) && why == api.OK && Size(f) == len(b) && no == api.OK && n == len(b) && Same(back, f)
}

func TestRightOfKinds(t *testing.T) {
	for kind := range kinds() {
		if !taken(full(kind)) {
			t.Errorf("P4.1: Kind %d is not Right", kind)
		}
	}
	for _, kind := range wrongKinds() {
		if !refused(full(kind)) || !refused(api.Frame{Kind: kind}) {
			t.Errorf("P4.1: Kind %d is Right", kind)
		}
	}
}

func TestRightOfWhatIsAskedAlone(t *testing.T) {
	for kind := range kinds() {
		for field, values := range wrongs() {
			for _, x := range values {
				f := with(full(kind), field, x)
				if asked := asksFor(kind, field); asked && !refused(f) || !asked && !taken(f) {
					t.Errorf("P4.1: Kind %d with a wrong %s, asked: %t", kind, field, asked)
				}
			}
		}
		for field, values := range others() {
			for _, x := range values {
				if !taken(with(full(kind), field, x)) {
					t.Errorf("P4.1: Kind %d with %s %v", kind, field, x)
				}
			}
		}
	}
}

func TestRightAtItsEdges(t *testing.T) {
	r := func(l ...uint64) []api.Range {
		var ranges []api.Range
		for i := 0; i < len(l); i += 2 {
			ranges = append(ranges, api.Range{Lo: l[i], Hi: l[i+1]})
		}
		return ranges
	}
	const big = uint64(api.MaxVar)
	data := func(n int) []byte { return make([]byte, n) }
	for i, c := range []struct {
		f     api.Frame
		right bool
	}{
		{api.Frame{Kind: api.Crypto, Offset: api.MaxOffset}, true},
		{api.Frame{Kind: api.Crypto, Offset: api.MaxOffset, Data: data(1)}, false},
		{api.Frame{Kind: api.Crypto, Offset: api.MaxOffset - 512, Data: data(512)}, true},
		{api.Frame{Kind: api.Crypto, Offset: api.MaxOffset - 511, Data: data(512)}, false},
		{api.Frame{Kind: api.Crypto, Offset: math.MaxUint64, Data: data(1)}, false}, // their sum wraps round to 0
		{api.Frame{Kind: api.Crypto, Offset: math.MaxUint64 - 511, Data: data(512)}, false},
		{api.Frame{Kind: api.Crypto, Data: data(513)}, false},
		{api.Frame{Kind: api.Stream, Offset: api.MaxOffset, Fin: true}, true},
		{api.Frame{Kind: api.Stream, Offset: api.MaxOffset, Data: data(1)}, false},
		{api.Frame{Kind: api.Stream, Offset: api.MaxOffset - 512, Data: data(512)}, true},
		{api.Frame{Kind: api.Stream, Offset: math.MaxUint64, Data: data(1)}, false},
		{api.Frame{Kind: api.Stream, Data: data(513)}, false},
		{api.Frame{Kind: api.MaxData, Limit: api.MaxOffset}, true},
		{api.Frame{Kind: api.MaxData, Limit: api.MaxOffset + 1}, false},
		{api.Frame{Kind: api.MaxStreamData, Stream: big, Limit: api.MaxOffset}, true},
		{api.Frame{Kind: api.MaxStreamData, Limit: api.MaxOffset + 1}, false},
		{api.Frame{Kind: api.MaxStreamsOf, Limit: 1 << 20}, true},
		{api.Frame{Kind: api.MaxStreamsOf, Limit: 1<<20 + 1}, false},
		{api.Frame{Kind: api.Blocked, Limit: big}, true}, // neither an offset nor streams
		{api.Frame{Kind: api.NewCID, Seq: 5, Limit: 5}, true},
		{api.Frame{Kind: api.NewCID, Seq: 5, Limit: 6}, false},
		{api.Frame{Kind: api.NewCID, Seq: big, Limit: big}, true},
		{api.Frame{Kind: api.NewCID, Seq: big + 1, Limit: big}, false},
		{api.Frame{Kind: api.Close, Code: big, Data: data(32)}, true},
		{api.Frame{Kind: api.Close, Data: data(33)}, false},
		{api.Frame{Kind: api.Ack, Ranges: spread(16), Delay: big}, true},
		{api.Frame{Kind: api.Ack, Ranges: spread(17)}, false},
		{api.Frame{Kind: api.Ack, Ranges: spread(1000)}, false},
		{api.Frame{Kind: api.Ack, Ranges: []api.Range{}}, false},
		{api.Frame{Kind: api.Ack, Ranges: r(0, 1)}, true},
		{api.Frame{Kind: api.Ack, Ranges: r(0, 0)}, false},
		{api.Frame{Kind: api.Ack, Ranges: r(6, 5)}, false},
		{api.Frame{Kind: api.Ack, Ranges: r(0, big+1)}, true},
		{api.Frame{Kind: api.Ack, Ranges: r(big, big+1)}, true},
		{api.Frame{Kind: api.Ack, Ranges: r(0, big+2)}, false},
		{api.Frame{Kind: api.Ack, Ranges: r(big+1, big+2)}, false},
		{api.Frame{Kind: api.Ack, Ranges: r(0, math.MaxUint64)}, false},
		{api.Frame{Kind: api.Ack, Ranges: r(1, 2, 3, 4)}, true},
		{api.Frame{Kind: api.Ack, Ranges: r(1, 2, 2, 3)}, false},
		{api.Frame{Kind: api.Ack, Ranges: r(1, 3, 2, 4)}, false},
		{api.Frame{Kind: api.Ack, Ranges: r(5, 6, 1, 2)}, false},
		{api.Frame{Kind: api.Ack, Ranges: r(2, 2, 5, 6)}, false}, // the first one is wrong, the last one is not
		{api.Frame{Kind: api.Ack, Ranges: r(1, 2, 5, 5)}, false},
		{api.Frame{Kind: api.Ack, Ranges: r(1, 2, 5, 6, 6, 7)}, false},
	} {
		if c.right && !taken(c.f) || !c.right && !refused(c.f) {
			t.Errorf("P4.1: edge %d, Kind %d: not %t", i, c.f.Kind, c.right)
		}
	}
}

func TestAsks(t *testing.T) {
	for kind := range kinds() {
		want := kind != 0 && kind != 2 && kind != 28
		if Asks(full(kind)) != want || Asks(api.Frame{Kind: kind}) != want {
			t.Errorf("P4.1: Asks of Kind %d: not %t", kind, want)
		}
	}
}

func TestSameHoldsWhatIsAskedAgainstEachOther(t *testing.T) {
	for kind := range kinds() {
		f := full(kind)
		for field, values := range others() {
			for _, x := range append(values, wrongs()[field]...) {
				g := with(f, field, x)
				if want := !asksFor(kind, field); Same(f, g) != want || Same(g, f) != want {
					t.Errorf("P4.1: Same, Kind %d with other %s: not %t", kind, field, want)
				}
			}
		}
		for other := range kinds() {
			if Same(f, full(other)) != (kind == other) || Same(api.Frame{Kind: kind}, api.Frame{Kind: other}) != (kind == other) {
				t.Errorf("P4.1: Same, Kinds %d and %d", kind, other)
			}
		}
	}
	if !Same(api.Frame{Kind: api.Ack}, api.Frame{Kind: api.Ack, Ranges: []api.Range{}}) || !Same(api.Frame{Kind: api.Crypto}, api.Frame{Kind: api.Crypto, Data: []byte{}}) {
		t.Error("R4: nil and empty are not the same")
	}
	if Same(api.Frame{Kind: 3}, api.Frame{Kind: 7}) || !Same(full(3), api.Frame{Kind: 3}) {
		t.Error("P4.1: Same of Kinds that are none of api's")
	}
}

func TestCopyIsWhatTheKindAsks(t *testing.T) {
	for _, kind := range slices.AppendSeq(wrongKinds(), maps.Keys(kinds())) {
		f := full(kind)
		c := Copy(f)
		if c.Kind != kind {
			t.Errorf("P4.1: Copy of Kind %d: Kind %d", kind, c.Kind)
		}
		for _, field := range fields() {
			want := reflect.ValueOf(f).FieldByName(field)
			if !asksFor(kind, field) {
				want = reflect.Zero(want.Type())
			}
			if got := reflect.ValueOf(c).FieldByName(field); !reflect.DeepEqual(got.Interface(), want.Interface()) {
				t.Errorf("P4.1: Copy of Kind %d: %s %v, not %v", kind, field, got, want)
			}
		}
	}
}

func TestCopyOfWhatIsNotRight(t *testing.T) {
	for field, values := range wrongs() {
		for _, x := range values {
			for kind := range kinds() {
				if f := with(full(kind), field, x); !Same(Copy(f), f) {
					t.Errorf("P4.1: Copy of Kind %d with a wrong %s", kind, field)
				}
			}
		}
	}
}

func TestCopyIsByItself(t *testing.T) {
	data, ranges := []byte("data.spare"), append(spread(2), spread(3)...)
	f := api.Frame{Kind: api.Stream, Data: data[:4], Ranges: ranges[:2]}
	c := Copy(f)
	clear(data)
	if string(c.Data) != "data" {
		t.Errorf("R2: Copy keeps what was handed in: %q", c.Data)
	}
	if _ = append(c.Data, "more"...); !bytes.Equal(data, make([]byte, 10)) {
		t.Errorf("R2: Copy's spare room is what was handed in: %q", data)
	}
	f.Kind = api.Ack
	c = Copy(f)
	clear(ranges[:2])
	if !slices.Equal(c.Ranges, spread(2)) {
		t.Errorf("R2: Copy keeps what was handed in: %v", c.Ranges)
	}
	if _ = append(c.Ranges, api.Range{Lo: 77, Hi: 78}); !slices.Equal(ranges[2:], spread(3)) {
		t.Errorf("R2: Copy's spare room is what was handed in: %v", ranges)
	}
}

func TestEncodeIsThoseBytes(t *testing.T) {
	const big = uint64(api.MaxVar)
	full8 := "\xff\xff\xff\xff\xff\xff\xff\xff"
	for i, c := range []struct {
		f    api.Frame
		want string
	}{
		{api.Frame{Kind: api.Ping}, "\x01"}, // the chapter's run
		{full(api.Padding), "\x00"}, {full(api.Ping), "\x01"}, {full(api.Done), "\x1e"},
		{full(api.Reset), "\x04\x04\x06\x42\xbc"}, {full(api.Stop), "\x05\x04\x06"},
		{full(api.Crypto), "\x06\x40\x46\x04data"}, {full(api.MaxData), "\x10\x05"}, {full(api.MaxStreamData), "\x11\x04\x05"},
		{full(api.MaxStreamsOf), "\x12\x05"}, {full(api.Blocked), "\x14\x05"},
		{full(api.NewCID), "\x18\x08\x05\x08\x01\x02\x03\x04\x05\x06\x07\x08"}, {full(api.Retire), "\x19\x08"},
		{full(api.Challenge), "\x1a\x01\x02\x03\x04\x05\x06\x07\x08"}, {full(api.Response), "\x1b\x01\x02\x03\x04\x05\x06\x07\x08"},
		{full(api.Close), "\x1c\x06\x04data"}, {api.Frame{Kind: api.Close}, "\x1c\x00\x00"},
		{api.Frame{Kind: api.Reset, Stream: big, Code: big, Final: 64}, "\x04" + full8 + full8 + "\x40\x40"},
		{api.Frame{Kind: api.Crypto, Data: bytes.Repeat([]byte("x"), 64)}, "\x06\x00\x40\x40" + strings.Repeat("x", 64)},
		{full(api.Stream), "\x0f\x04\x40\x46\x04data"},
		{with(full(api.Stream), "Fin", false), "\x0e\x04\x40\x46\x04data"},
		{with(full(api.Stream), "Offset", uint64(0)), "\x0b\x04\x04data"},
		{with(full(api.Stream), "Offset", uint64(1)), "\x0f\x04\x01\x04data"},
		{api.Frame{Kind: api.Stream, Data: []byte("data")}, "\x0a\x00\x04data"},
		{api.Frame{Kind: api.Stream}, "\x0a\x00\x00"}, {api.Frame{Kind: api.Stream, Fin: true}, "\x0b\x00\x00"},
		{full(api.Ack), "\x02\x07\x09\x01\x00\x03\x01"},
		{api.Frame{Kind: api.Ack, Delay: 64, Ranges: []api.Range{{Lo: 0, Hi: 1}}}, "\x02\x00\x40\x40\x00\x00"},
		{api.Frame{Kind: api.Ack, Ranges: []api.Range{{Lo: 0, Hi: 5}, {Lo: 6, Hi: 8}, {Lo: 100, Hi: 200}}}, "\x02\x40\xc7\x00\x02\x40\x63\x40\x5b\x01\x00\x04"},
		{api.Frame{Kind: api.Ack, Ranges: []api.Range{{Lo: 0, Hi: big + 1}}}, "\x02" + full8 + "\x00\x00" + full8},
		{api.Frame{Kind: api.Ack, Ranges: spread(16)}, "\x02\x1e\x00\x0f\x00" + strings.Repeat("\x00\x00", 15)},
	} {
		if b, why := Encode(c.f); string(b) != c.want || why != api.OK || Size(c.f) != len(c.want) {
			t.Errorf("P4.2: Encode, case %d: %x, %v, Size %d", i, b, why, Size(c.f))
		}
	}
}

func TestEncodeRefusesIfOneIsNotRight(t *testing.T) {
	good, bad := full(api.Stream), api.Frame{Kind: 3}
	for i, l := range [][]api.Frame{{bad}, {bad, good}, {good, bad}, {good, bad, good}, {bad, bad}} {
		if b, why := Encode(l...); len(b) != 0 || why != api.ErrArg {
			t.Errorf("P4.2: Encode of a wrong one, case %d: %x, %v", i, b, why)
		}
	}
	if b, why := Encode(); len(b) != 0 || why != api.OK {
		t.Errorf("P4.2: Encode of none: %x, %v", b, why)
	}
}

func TestEncodeKeepsToItsOwnMemory(t *testing.T) {
	data := []byte("data.spare")
	l := []api.Frame{{Kind: api.Stream, Data: data[:4]}, {Kind: api.Ack, Ranges: spread(3)[:2]}}
	first, _ := Encode(l...)
	second, _ := Encode(l...)
	clear(first[:cap(first)])
	if string(data) != "data.spare" || !slices.Equal(l[1].Ranges[:3], spread(3)) || string(second) != "\x0a\x00\x04data\x02\x02\x00\x01\x00\x00\x00" {
		t.Errorf("R2: %q, %v, %x", data, l[1].Ranges[:3], second)
	}
}

// vars is each of l as a number of so many bytes, be it longer than the least.
func vars(size int, l ...uint64) string {
	mark := map[int]byte{1: 0, 2: 0x40, 4: 0x80, 8: 0xc0}[size]
	var b []byte
	for _, n := range l {
		at := len(b)
		for i := size - 1; i >= 0; i-- {
			b = append(b, byte(n>>(8*i)))
		}
		b[at] |= mark
	}
	return string(b)
}

func TestDecodeOfNumbersOfAnyLength(t *testing.T) {
	cid := "\x01\x02\x03\x04\x05\x06\x07\x08"
	for _, size := range []int{1, 2, 4, 8} {
		v := func(l ...uint64) string { return vars(size, l...) }
		if n, got := bits.GetVar([]byte(v(5))); n != 5 || got != size {
			t.Fatalf("a number of %d bytes: %x", size, v(5))
		}
		for _, c := range []struct {
			b    string
			want api.Frame
		}{
			{v(0), api.Frame{}}, {v(1), api.Frame{Kind: api.Ping}}, {v(30), api.Frame{Kind: api.Done}},
			{v(2, 7, 9, 1, 0, 3, 1), full(api.Ack)}, {v(4, 4, 6, 63), with(full(api.Reset), "Final", uint64(63))}, {v(5, 4, 6), full(api.Stop)},
			{v(6, 63, 4) + "data", with(full(api.Crypto), "Offset", uint64(63))},
			{v(15, 4, 63, 4) + "data", with(full(api.Stream), "Offset", uint64(63))},
			{v(10, 4, 4) + "data", api.Frame{Kind: api.Stream, Stream: 4, Data: []byte("data")}},
			{v(16, 5), full(api.MaxData)}, {v(17, 4, 5), full(api.MaxStreamData)}, {v(18, 5), full(api.MaxStreamsOf)}, {v(20, 5), full(api.Blocked)},
			{v(24, 8, 5) + "\x08" + cid, full(api.NewCID)}, {v(25, 8), full(api.Retire)},
			{v(26) + cid, full(api.Challenge)}, {v(27) + cid, full(api.Response)}, {v(28, 6, 4) + "data", full(api.Close)},
		} {
			decodes(t, c.b, "", c.want)
			decodes(t, c.b, "\x00", c.want)
			decodes(t, c.b, strings.Repeat("\xff", 700), c.want)
			for k := range len(c.b) {
				decodesNone(t, c.b[:k])
			}
		}
		for _, kind := range []uint64{3, 7, 19, 21, 22, 23, 29, 31, 32, 33, 62, 63} {
			decodesNone(t, v(kind)+strings.Repeat("\x00", 40))
		}
	}
}

// decodes holds Decode of b, and what stands behind it, against what it must be.
func decodes(t *testing.T, b, behind string, want api.Frame) {
	t.Helper()
	f, n, why := Decode([]byte(b + behind))
	if why != api.OK || n != len(b) || !Same(f, want) || !reflect.DeepEqual(plain(f), plain(Copy(want))) {
		t.Errorf("P4.3: Decode of %x and %d more: %+v, %d, %v", b, len(behind), f, n, why)
	}
}

// plain is f with nil for each empty list.
func plain(f api.Frame) api.Frame {
	if len(f.Data) == 0 {
		f.Data = nil
	}
	if len(f.Ranges) == 0 {
		f.Ranges = nil
	}
	return f
}

// decodesNone holds b to be refused, by All too, behind a frame too.
func decodesNone(t *testing.T, b string) {
	t.Helper()
	if f, n, why := Decode([]byte(b)); why != api.ErrForm || n != 0 || !reflect.DeepEqual(f, api.Frame{}) {
		t.Errorf("P4.3: Decode of %x: %+v, %d, %v", b, f, n, why)
	}
	if l, why := All([]byte(b)); why != api.ErrForm || len(l) != 0 {
		t.Errorf("P4.3: All of %x: %d, %v", b, len(l), why)
	}
	if l, why := All([]byte("\x01" + b)); len(b) > 0 && (why != api.ErrForm || len(l) != 0) {
		t.Errorf("P4.3: All of a Ping and %x: %d, %v", b, len(l), why)
	}
}

func TestDecodeOfKindsAsGreatAsMayBe(t *testing.T) {
	for _, kind := range []uint64{64, 1 << 8, 1<<8 + 1, 1<<16 + 1, 1<<32 + 1, 1<<32 + 8, 1 << 61, api.MaxVar} {
		b, _ := bits.PutVar(nil, kind)
		decodesNone(t, string(b)+strings.Repeat("\x00", 40))
	}
}

func TestDecodeOfStreams(t *testing.T) {
	long := strings.Repeat("x", 512)
	for _, c := range []struct {
		b    string
		want api.Frame
	}{
		{"\x08\x04", api.Frame{Kind: api.Stream, Stream: 4}},
		{"\x08\x04ab", api.Frame{Kind: api.Stream, Stream: 4, Data: []byte("ab")}},
		{"\x09\x04", api.Frame{Kind: api.Stream, Stream: 4, Fin: true}},
		{"\x09\x04ab", api.Frame{Kind: api.Stream, Stream: 4, Data: []byte("ab"), Fin: true}},
		{"\x0a\x04\x02ab", api.Frame{Kind: api.Stream, Stream: 4, Data: []byte("ab")}},
		{"\x0b\x04\x02ab", api.Frame{Kind: api.Stream, Stream: 4, Data: []byte("ab"), Fin: true}},
		{"\x0c\x04\x07", api.Frame{Kind: api.Stream, Stream: 4, Offset: 7}},
		{"\x0c\x04\x07ab", api.Frame{Kind: api.Stream, Stream: 4, Offset: 7, Data: []byte("ab")}},
		{"\x0d\x04\x07ab", api.Frame{Kind: api.Stream, Stream: 4, Offset: 7, Data: []byte("ab"), Fin: true}},
		{"\x0e\x04\x07\x02ab", api.Frame{Kind: api.Stream, Stream: 4, Offset: 7, Data: []byte("ab")}},
		{"\x0f\x04\x07\x02ab", api.Frame{Kind: api.Stream, Stream: 4, Offset: 7, Data: []byte("ab"), Fin: true}},
		{"\x0f\x04\x00\x00", api.Frame{Kind: api.Stream, Stream: 4, Fin: true}}, // an Offset of 0 may be told
		{"\x08\x04" + long, api.Frame{Kind: api.Stream, Stream: 4, Data: []byte(long)}},
		{"\x0a\x04\x42\x00" + long, api.Frame{Kind: api.Stream, Stream: 4, Data: []byte(long)}},
		{"\x0c\x04\xc0\x00\x00\xff\xff\xff\xff\xffx", api.Frame{Kind: api.Stream, Stream: 4, Offset: api.MaxOffset - 1, Data: []byte("x")}},
	} {
		decodes(t, c.b, "", c.want)
		if c.b[0]&2 != 0 {
			decodes(t, c.b, "z", c.want)
		}
	}
	for _, b := range []string{
		"\x08", "\x0c\x04", "\x0a\x04", "\x0a\x04\x01", "\x0e\x04\x07", "\x08\x04x" + long, "\x0a\x04\x42\x01x" + long,
		"\x0c\x04\xc0\x00\x00\xff\xff\xff\xff\xffxx", "\x0c\x04\xc0\x00\x01\x00\x00\x00\x00\x01", "\x0a\x04\xff\xff\xff\xff\xff\xff\xff\xffx",
	} {
		decodesNone(t, b)
	}
}

func TestDecodeOfAcks(t *testing.T) {
	r := func(l ...api.Range) api.Frame { return api.Frame{Kind: api.Ack, Ranges: l} }
	for _, c := range []struct {
		b    string
		want api.Frame
	}{
		{"\x02\x00\x00\x00\x00", r(api.Range{Lo: 0, Hi: 1})},
		{"\x02\x05\x00\x00\x05", r(api.Range{Lo: 0, Hi: 6})},
		{"\x02\x05\x00\x01\x00\x03\x00", r(api.Range{Lo: 0, Hi: 1}, api.Range{Lo: 5, Hi: 6})},
		{"\x02\x05\x00\x01\x00\x00\x03", r(api.Range{Lo: 0, Hi: 4}, api.Range{Lo: 5, Hi: 6})},
		{"\x02\x05\x00\x02\x00\x00\x00\x00\x01", r(api.Range{Lo: 0, Hi: 2}, api.Range{Lo: 3, Hi: 4}, api.Range{Lo: 5, Hi: 6})},
		{"\x02\xff\xff\xff\xff\xff\xff\xff\xff\x00\x00\xff\xff\xff\xff\xff\xff\xff\xff", r(api.Range{Lo: 0, Hi: api.MaxVar + 1})},
		{"\x02\x1e\x00\x0f\x00" + strings.Repeat("\x00", 30), r(spread(16)...)},
	} {
		decodes(t, c.b, "", c.want)
		decodes(t, c.b, "\x00\x00", c.want)
	}
	for _, b := range []string{
		"\x02\x05\x00\x00\x06",                                     // below 0 at once
		"\x02\x05\x00\x01\x00\x04\x00",                             // by the gap, to the number -1
		"\x02\x05\x00\x01\x00\x05\x00",                             // by the gap
		"\x02\x05\x00\x01\x00\x03\x01",                             // by the range behind the gap
		"\x02\x05\x00\x01\x05\x00\x00",                             // no room below 0
		"\x02\x05\x00\x02\x00\x00\x00\x00\x02",                     // the third one
		"\x02\x05\x00\x01\x00\xff\xff\xff\xff\xff\xff\xff\xff\x00", // by as much as may be
		"\x02\x05\x00\x01\x00\x00\xff\xff\xff\xff\xff\xff\xff\xff",
		"\x02\x05\x00\x00\xff\xff\xff\xff\xff\xff\xff\xff",
		"\x02\x3f\x00\x10\x00" + strings.Repeat("\x00", 32), // 17 ranges
		"\x02\x3f\x00\x10\x00" + strings.Repeat("\x00", 90),
		"\x02\x05\x00\xff\xff\xff\xff\xff\xff\xff\xff\x00" + strings.Repeat("\x00", 40), // more than can be counted
		"\x02\x05\x00\xff\xff\xff\xff\xff\xff\xff\xff\x00",
	} {
		decodesNone(t, b)
	}
}

func TestDecodeOfWhatIsNotRight(t *testing.T) {
	nine := "\x01\x02\x03\x04\x05\x06\x07\x08\x09"
	long := strings.Repeat("x", 600)
	for _, b := range []string{
		"",                                                                                                         // the chapter's example 1
		"\x18\x05\x06\x08" + nine,                                                                                  // Limit above Seq
		"\x18\x05\x02\x07" + nine, "\x18\x05\x02\x09" + nine, "\x18\x05\x02\x00" + nine, "\x18\x05\x02\xff" + nine, // a name's length
		"\x18\x05\x02\x40\x08" + nine, // it is a byte, not a Var
		"\x18\x05\x02\x08" + nine[:7], "\x1a" + nine[:7], "\x1b" + nine[:7],
		"\x12\x80\x10\x00\x01",                 // MaxStreamsOf 2^20 + 1
		"\x10\xc0\x00\x01\x00\x00\x00\x00\x01", // MaxOffset + 1
		"\x11\x00\xc0\x00\x01\x00\x00\x00\x00\x01",
		"\x04\x00\x00\xc0\x00\x01\x00\x00\x00\x00\x01",
		"\x06\xc0\x00\x01\x00\x00\x00\x00\x01\x00", "\x06\xc0\x00\x01\x00\x00\x00\x00\x00\x01x", "\x06\x00\x42\x01" + long,
		"\x06\x00\x05abcd", "\x06\x00\xff\xff\xff\xff\xff\xff\xff\xff" + long, "\x1c\x00\x21" + long, "\x1c\x00\x05abcd",
	} {
		decodesNone(t, b)
	}
	for _, c := range []struct {
		b    string
		want api.Frame
	}{
		{"\x12\x80\x10\x00\x00", api.Frame{Kind: api.MaxStreamsOf, Limit: 1 << 20}},
		{"\x10\xc0\x00\x01\x00\x00\x00\x00\x00", api.Frame{Kind: api.MaxData, Limit: api.MaxOffset}},
		{"\x11\x00\xc0\x00\x01\x00\x00\x00\x00\x00", api.Frame{Kind: api.MaxStreamData, Limit: api.MaxOffset}},
		{"\x04\x00\x00\xc0\x00\x01\x00\x00\x00\x00\x00", api.Frame{Kind: api.Reset, Final: api.MaxOffset}},
		{"\x06\xc0\x00\x01\x00\x00\x00\x00\x00\x00", api.Frame{Kind: api.Crypto, Offset: api.MaxOffset}},
		{"\x14\xff\xff\xff\xff\xff\xff\xff\xff", api.Frame{Kind: api.Blocked, Limit: api.MaxVar}},
		{"\x1c\x00\x20" + long[:32], api.Frame{Kind: api.Close, Data: []byte(long[:32])}},
	} {
		decodes(t, c.b, "", c.want)
	}
}

func TestDecodeNotBySpareRoom(t *testing.T) {
	room := []byte("\x0a\x04\x02ab\x01\x01")
	for k := range 5 {
		if f, n, why := Decode(room[:k]); why != api.ErrForm || n != 0 || f.Kind != 0 {
			t.Errorf("R5: Decode of %d bytes reads what stands behind them", k)
		}
	}
	if l, why := All(room[:5]); len(l) != 1 || why != api.OK {
		t.Errorf("R5: All reads what stands behind the length: %d, %v", len(l), why)
	}
	if f, n, _ := Decode([]byte("\x08\x04abcd")[:4]); n != 4 || string(f.Data) != "ab" {
		t.Errorf("R5: all that is left: %q", f.Data)
	}
}

func TestReadingKeepsToItsOwnMemory(t *testing.T) {
	text := "\x0a\x04\x02ab\x06\x00\x02cd\x02\x05\x00\x00\x00\x02\x07\x00\x00\x00\x08\x04ef"
	b := append([]byte(text), "spare"...)
	l, why := All(b[:len(text)])
	f, _, _ := Decode(b[:len(text)])
	if string(b) != text+"spare" || why != api.OK || len(l) != 5 {
		t.Fatalf("R2: All: %x, %d, %v", b, len(l), why)
	}
	clear(b)
	f.Data = append(f.Data, "more"...)
	for _, i := range []int{0, 1, 4} {
		_ = append(l[i].Data, "more"...)
	}
	for _, i := range []int{2, 3} {
		_ = append(l[i].Ranges, spread(2)...)
	}
	if !bytes.Equal(b, make([]byte, len(b))) {
		t.Errorf("R2: an answer's spare room is what was handed in: %x", b)
	}
	clear(f.Data)
	if string(l[0].Data)+string(l[1].Data)+string(l[4].Data) != "abcdef" || l[2].Ranges[0].Lo != 5 || l[3].Ranges[0].Lo != 7 {
		t.Errorf("R2: All's lists share memory: %+v", l)
	}
}

func TestAllIsEachFrame(t *testing.T) {
	for _, c := range []struct {
		b     string
		kinds []int
	}{
		{"\x01", []int{1}}, {"\x00\x00\x00", []int{0, 0, 0}}, {"\x01\x40\x1e\x00", []int{1, 30, 0}},
		{"\x0a\x04\x00\x01", []int{8, 1}}, {"\x01\x08\x04\x01", []int{1, 8}}, // without a length, all that is left is Data
		{"\x10\x05\x10\x05", []int{16, 16}},
	} {
		l, why := All([]byte(c.b))
		var got []int
		for _, f := range l {
			got = append(got, f.Kind)
		}
		if !slices.Equal(got, c.kinds) || why != api.OK {
			t.Errorf("P4.3: All of %x: %v, %v", c.b, got, why)
		}
	}
	for _, b := range []string{"\x01\x03", "\x03\x01", "\x01\x10", "\x01\x01\x40", "\x10\x05\x10"} {
		if l, why := All([]byte(b)); len(l) != 0 || why != api.ErrForm {
			t.Errorf("P4.3: All of %x: %d, %v", b, len(l), why)
		}
	}
	for _, b := range [][]byte{nil, {}} {
		if l, why := All(b); len(l) != 0 || why != api.ErrForm {
			t.Errorf("P4.3: All of nothing: %d, %v", len(l), why)
		}
	}
}

func TestAllOfManyIsNotCopiedEachTime(t *testing.T) {
	const n = 1 << 19
	if l, why := All(make([]byte, n)); len(l) != n || why != api.OK {
		t.Errorf("P4.3: All of %d bytes of Padding: %d, %v", n, len(l), why)
	}
}

// someFrame is a Right frame by chance, near the limits now and then.
func someFrame(r *rand.Rand) api.Frame {
	all := slices.Sorted(maps.Keys(kinds()))
	number := func(most uint64) uint64 {
		if r.Intn(8) == 0 {
			return most - uint64(r.Intn(2))
		}
		return r.Uint64() >> r.Intn(64) % (most + 1)
	}
	f := api.Frame{Kind: all[r.Intn(len(all))], Stream: number(api.MaxVar), Fin: r.Intn(2) == 0, Code: number(api.MaxVar), Final: number(api.MaxOffset), Seq: number(api.MaxVar), Delay: number(api.MaxVar)}
	f.Data = make([]byte, number(api.MaxDatagram))
	f.Limit = number(api.MaxOffset)
	switch f.Kind {
	case api.Close:
		f.Data = f.Data[:min(len(f.Data), api.MaxToken)]
	case api.MaxStreamsOf:
		f.Limit = number(1 << 20)
	case api.NewCID:
		f.Limit = min(number(api.MaxVar), f.Seq)
	}
	r.Read(f.Data)
	r.Read(f.CID[:])
	if r.Intn(3) > 0 {
		f.Offset = number(uint64(api.MaxOffset - len(f.Data)))
	}
	at := uint64(0)
	for range 1 + r.Intn(api.MaxRanges) {
		lo := at + r.Uint64()>>(8+r.Intn(56))
		hi := lo + 1 + r.Uint64()>>(8+r.Intn(56))
		f.Ranges = append(f.Ranges, api.Range{Lo: lo, Hi: hi})
		at = hi + 1
	}
	return f
}

func TestAllOfEncodeIsTheFrames(t *testing.T) {
	r := rand.New(rand.NewSource(4))
	for round := range 2000 {
		l := make([]api.Frame, 1+r.Intn(10))
		size := 0
		for i := range l {
			l[i] = someFrame(r)
			size += Size(l[i])
		}
		b, why := Encode(l...)
		if why != api.OK || len(b) != size {
			t.Fatalf("P4.2: round %d: %d bytes of %d, %v", round, len(b), size, why)
		}
		got, why := All(b)
		if why != api.OK || len(got) != len(l) {
			t.Fatalf("P4.4: round %d: %d frames of %d, %v", round, len(got), len(l), why)
		}
		for i := range l {
			if !Same(got[i], l[i]) || !reflect.DeepEqual(plain(got[i]), plain(Copy(l[i]))) {
				t.Fatalf("P4.4: round %d: frame %d of Kind %d is another one", round, i, l[i].Kind)
			}
		}
	}
}

// sound holds what Decode says of b against what the other calls say.
func sound(t *testing.T, b []byte) {
	t.Helper()
	given := bytes.Clone(b)
	f, n, why := Decode(b)
	if !bytes.Equal(b, given) {
		t.Fatalf("R2: Decode changed %x", given)
	}
	if why != api.OK {
		if why != api.ErrForm || n != 0 || !reflect.DeepEqual(f, api.Frame{}) {
			t.Fatalf("P4.3: Decode of %x: %+v, %d, %v", b, f, n, why)
		}
		return
	}
	if !Right(f) || n < 1 || n > len(b) || !reflect.DeepEqual(plain(f), plain(Copy(f))) {
		t.Fatalf("P4.3: Decode of %x: %+v, %d", b, f, n)
	}
	// A Stream that does not tell its length needs a Var more when it is written: two bytes at most.
	again, no := Encode(f)
	if back, size, _ := Decode(again); no != api.OK || size != len(again) || !Same(back, f) || len(again) > n+2 {
		t.Fatalf("P4.4: %d bytes were read of %x, and are written as %x", n, b, again)
	}
}

func TestDecodeOfAnyBytes(t *testing.T) {
	for first := range 256 {
		sound(t, []byte{byte(first)})
		for second := range 256 {
			sound(t, []byte{byte(first), byte(second)})
		}
	}
	r := rand.New(rand.NewSource(5))
	for range 30000 {
		b := make([]byte, r.Intn(40))
		r.Read(b)
		if len(b) > 0 && r.Intn(4) > 0 {
			b[0] &= 31
		}
		sound(t, b)
	}
	for range 30000 {
		b, _ := Encode(someFrame(r), someFrame(r))
		b[r.Intn(len(b))] ^= 1 << r.Intn(8)
		sound(t, b[:r.Intn(len(b)+1)])
	}
}
