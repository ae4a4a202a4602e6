package cids

import (
	"math"
	"math/rand"
	"slices"
	"testing"

	"narthex/api"
	"narthex/mix"
)

// far is more than any number that is asked here by itself.
const far = math.MaxUint64

// Names that are issued, worked out apart from this program by the words of mix: of the seed 5, of 0, and of the greatest one.
func byFive() []api.CID {
	return []api.CID{
		{0x12, 0x84, 0xf6, 0x8c, 0xa8, 0x59, 0x83, 0x85},
		{0x6a, 0xad, 0x1f, 0x01, 0xfb, 0xfd, 0xd8, 0x92},
		{0xc8, 0x62, 0xe2, 0xc2, 0x23, 0x6b, 0xec, 0x5e},
		{0x87, 0x7a, 0x5d, 0x96, 0x89, 0xe9, 0xcb, 0x28},
		{0xb3, 0x5e, 0xce, 0x42, 0xcb, 0x31, 0xa0, 0xd7},
	}
}

func byNone() []api.CID {
	return []api.CID{
		{0xca, 0x00, 0x97, 0x17, 0xf8, 0x7d, 0x88, 0x79},
		{0x3b, 0x17, 0xff, 0x2c, 0x3b, 0xff, 0x91, 0xb1},
		{0xc3, 0xc6, 0xa6, 0x37, 0x07, 0x0d, 0x7c, 0xe4},
		{0x00, 0x58, 0xa9, 0xee, 0x3a, 0xe3, 0x93, 0xbb},
		{0x83, 0x5a, 0xda, 0x4e, 0xbc, 0xdc, 0x74, 0x0b},
	}
}

func byMost() []api.CID {
	return []api.CID{
		{0x89, 0x58, 0xde, 0x84, 0xc6, 0x3a, 0xdb, 0xa3},
		{0xc2, 0x5e, 0xaf, 0xd6, 0xf3, 0x8d, 0x62, 0xac},
		{0xa8, 0xea, 0x33, 0xed, 0x63, 0x56, 0x88, 0x5f},
		{0xbc, 0x27, 0xdc, 0x3c, 0xb1, 0x4a, 0xdc, 0x57},
		{0x7c, 0x09, 0xeb, 0x73, 0xc4, 0x7f, 0x24, 0xc6},
	}
}

// theFirst is the name that both ends begin with.
func theFirst() api.CID { return api.CID{9, 8, 7, 6, 5, 4, 3, 2} }

// equal is whether a and b tell the same in every field.
func equal(a, b api.Frame) bool {
	return a.Kind == b.Kind && a.Stream == b.Stream && a.Offset == b.Offset && len(a.Data) == 0 && len(b.Data) == 0 &&
		a.Fin == b.Fin && a.Limit == b.Limit && a.Code == b.Code && a.Final == b.Final && a.Seq == b.Seq &&
		a.Delay == b.Delay && len(a.Ranges) == 0 && len(b.Ranges) == 0 && a.CID == b.CID
}

// tells is a NewCID frame.
func tells(seq, limit uint64, c api.CID) api.Frame {
	return api.Frame{Kind: api.NewCID, Seq: seq, Limit: limit, CID: c}
}

// gives is a Retire frame.
func gives(seq uint64) api.Frame { return api.Frame{Kind: api.Retire, Seq: seq} }

func TestNamesByHand(t *testing.T) {
	for _, x := range []struct {
		seed  uint64
		names []api.CID
	}{{5, byFive()}, {0, byNone()}, {far, byMost()}} {
		o := New(theFirst(), x.seed)
		if !slices.Equal(o.All(), []api.CID{theFirst()}) || !o.Has(theFirst()) || o.Has(x.names[0]) {
			t.Errorf("P20.1: at first: %v", o.All())
		}
		for i, c := range x.names {
			f, ok := o.Issue()
			if !ok || !equal(f, tells(uint64(i)+1, 0, c)) || !o.Has(c) {
				t.Errorf("P20.1: Issue of the seed %d, number %d: %v, %v", x.seed, i+1, f, ok)
			}
			if got, why := o.Retire(uint64(i)); why != api.OK || i > 0 && got != x.names[i-1] || i == 0 && got != theFirst() || o.Has(got) {
				t.Errorf("P20.1: Retire(%d) of the seed %d: %v, %v", i, x.seed, got, why)
			}
		}
	}
}

func TestIssueUpToTheMost(t *testing.T) {
	o := New(theFirst(), 5)
	for range api.MaxCIDs - 1 {
		o.Issue()
	}
	for range 3 {
		if f, ok := o.Issue(); ok || !equal(f, api.Frame{}) || len(o.All()) != 4 {
			t.Errorf("P20.1: Issue with all there: %v, %v", f, ok)
		}
	}
	o.Retire(2)
	// What was refused has used up neither a number nor a name.
	if f, ok := o.Issue(); !ok || !equal(f, tells(4, 0, byFive()[3])) {
		t.Errorf("P20.1: Issue behind a Retire: %v, %v", f, ok)
	}
	if l := o.All(); !slices.Equal(l, []api.CID{theFirst(), byFive()[0], byFive()[2], byFive()[3]}) {
		t.Errorf("P20.1: All: %v", l)
	}
}

func TestRetireRefused(t *testing.T) {
	o := New(theFirst(), 5)
	for _, n := range []uint64{1, 2, api.MaxVar, api.MaxVar + 1, far} {
		if c, why := o.Retire(n); why != api.ErrNone || c != (api.CID{}) {
			t.Errorf("P20.1: Retire(%d) of none, of one alone: %v, %v", n, c, why)
		}
	}
	if c, why := o.Retire(0); why != api.ErrState || c != (api.CID{}) || !o.Has(theFirst()) {
		t.Errorf("P20.1: Retire of the only one: %v, %v", c, why)
	}
	o.Issue()
	o.Retire(0)
	if c, why := o.Retire(0); why != api.ErrNone || c != (api.CID{}) {
		t.Errorf("P20.1: Retire of one that is gone: %v, %v", c, why)
	}
	if c, why := o.Retire(1); why != api.ErrState || c != (api.CID{}) || !o.Has(byFive()[0]) {
		t.Errorf("P20.1: Retire of the only one: %v, %v", c, why)
	}
}

// Two numbers may bear one name by chance: it is there as long as one of them is.
func TestOneNameTwice(t *testing.T) {
	o := New(byFive()[1], 5)
	o.Issue()
	o.Issue()
	if l := o.All(); !slices.Equal(l, []api.CID{byFive()[1], byFive()[0], byFive()[1]}) {
		t.Errorf("P20.1: All: %v", l)
	}
	if c, why := o.Retire(0); c != byFive()[1] || why != api.OK || !o.Has(c) {
		t.Errorf("P20.1: the name of 0 and 2, without 0: %v, %v", c, why)
	}
	if c, why := o.Retire(2); c != byFive()[1] || why != api.OK || o.Has(c) {
		t.Errorf("P20.1: the name of 0 and 2, without both: %v, %v", c, why)
	}
}

func TestAllByItself(t *testing.T) {
	o := New(theFirst(), 5)
	for range api.MaxCIDs {
		a, b := o.All(), o.All()
		want := slices.Clone(b)
		for i := range a[:cap(a)] {
			a[:cap(a)][i] = api.CID{0xff}
		}
		if !slices.Equal(b, want) || !slices.Equal(o.All(), want) || o.Has(api.CID{0xff}) {
			t.Errorf("R2: All: %v, not %v", o.All(), want)
		}
		o.Issue()
		if !slices.Equal(b, want) {
			t.Errorf("R2: All, behind Issue: %v", b)
		}
	}
	b := o.All()
	want := slices.Clone(b)
	o.Retire(0)
	o.Issue()
	if !slices.Equal(b, want) {
		t.Errorf("R2: All, behind Retire: %v", b)
	}
}

// ownModel is an Own by the chapter's words: all names that it ever had.
type ownModel struct {
	first api.CID
	seed  uint64
	there []bool // by numbers
}

// cid is the name of number.
func (m *ownModel) cid(number int) api.CID {
	if number == 0 {
		return m.first
	}
	n := m.seed
	for range number {
		n = mix.Next(n)
	}
	return mix.Bytes(n)
}

func (m *ownModel) all() []api.CID {
	var l []api.CID
	for n, there := range m.there {
		if there {
			l = append(l, m.cid(n))
		}
	}
	return l
}

func (m *ownModel) issue() (api.Frame, bool) {
	if len(m.all()) == 4 {
		return api.Frame{}, false
	}
	m.there = append(m.there, true)
	n := len(m.there) - 1
	return tells(uint64(n), 0, m.cid(n)), true
}

func (m *ownModel) retire(seq uint64) (api.CID, api.Errno) {
	if seq >= uint64(len(m.there)) || !m.there[seq] {
		return api.CID{}, api.ErrNone
	}
	if len(m.all()) == 1 {
		return api.CID{}, api.ErrState
	}
	m.there[seq] = false
	return m.cid(int(seq)), api.OK
}

// ownStep does one thing to both: an Issue where n is below 0, else a Retire.
func ownStep(t *testing.T, o *Own, m *ownModel, n int, behind any) {
	t.Helper()
	if n < 0 {
		f, ok := o.Issue()
		if g, want := m.issue(); ok != want || !equal(f, g) {
			t.Fatalf("P20.1: Issue: %v, %v, not %v, %v, in %v", f, ok, g, want, behind)
		}
	} else {
		c, why := o.Retire(uint64(n))
		if d, want := m.retire(uint64(n)); why != want || c != d {
			t.Fatalf("P20.1: Retire(%d): %v, %v, not %v, %v, in %v", n, c, why, d, want, behind)
		}
	}
	l := m.all()
	if !slices.Equal(o.All(), l) {
		t.Fatalf("P20.1: All: %v, not %v, in %v", o.All(), l, behind)
	}
	for n := range len(m.there) + 1 {
		if c := m.cid(n); o.Has(c) != slices.Contains(l, c) {
			t.Fatalf("P20.1: Has of the name of %d: %v, in %v", n, o.Has(c), behind)
		}
	}
}

func TestOwnSmallRows(t *testing.T) {
	const steps, long = 6, 6 // an Issue, or a Retire of 0 to 4
	for _, beginning := range [][]int{nil, {-1, -1, -1}, {-1, 0, -1}} {
		for n := range int(math.Pow(steps, long)) {
			o, m := New(theFirst(), 5), &ownModel{theFirst(), 5, []bool{true}}
			row := slices.Clone(beginning)
			for ; len(row) < len(beginning)+long; n /= steps {
				row = append(row, n%steps-1)
			}
			for _, s := range row {
				ownStep(t, o, m, s, row)
			}
		}
	}
}

func TestOwnLongRows(t *testing.T) {
	r := rand.New(rand.NewSource(20))
	for round := range 60 {
		seed := r.Uint64()
		o, m := New(theFirst(), seed), &ownModel{theFirst(), seed, []bool{true}}
		for range 60 {
			n := -1
			if r.Intn(2) == 0 {
				n = max(len(m.there)-r.Intn(6), 0)
			}
			ownStep(t, o, m, n, round)
		}
	}
}

// theirName is the name of number, in rows where none comes with another one.
func theirName(number uint64) api.CID {
	if number == 0 {
		return theFirst()
	}
	return api.CID{1, 2, 3, byte(number >> 8), byte(number)}
}

// fits is the NewCID frame that tells number with its name.
func fits(number, limit uint64) api.Frame { return tells(number, limit, theirName(number)) }

// record is a number that came.
type record struct {
	number uint64
	cid    api.CID
	there  bool
	due    bool // its Retire is to be sent
}

// model is a Theirs by the chapter's words.
type model struct {
	came []record
	now  uint64
}

func modelOf(first api.CID) *model { return &model{came: []record{{0, first, true, false}}} }

// lowest is the place of the lowest number that is as it is asked; below 0, if none is.
func (m *model) lowest(is func(r record) bool) int {
	at := -1
	for i, r := range m.came {
		if is(r) && (at < 0 || r.number < m.came[at].number) {
			at = i
		}
	}
	return at
}

func there(r record) bool { return r.there }

func (m *model) len() int {
	n := 0
	for _, r := range m.came {
		if r.there {
			n++
		}
	}
	return n
}

func (m *model) nowCID() api.CID {
	return m.came[m.lowest(func(r record) bool { return r.number == m.now })].cid
}

func (m *model) retire(at int) {
	m.came[at].there, m.came[at].due = false, true
}

func (m *model) on(f api.Frame) int {
	if f.Kind != 24 {
		return 10
	}
	came, stays := false, 1
	for _, r := range m.came {
		if (r.number == f.Seq) != (r.cid == f.CID) {
			return 10
		}
		came = came || r.number == f.Seq
		if r.there && r.number >= f.Limit {
			stays++
		}
	}
	switch {
	case f.Limit > f.Seq:
		return 7
	case came:
		return 0
	case stays > 4:
		return 10
	}
	m.came = append(m.came, record{f.Seq, f.CID, true, false})
	for at, r := range m.came {
		if r.there && r.number < f.Limit {
			m.retire(at)
		}
	}
	if m.lowest(func(r record) bool { return r.there && r.number == m.now }) < 0 {
		m.now = m.came[m.lowest(there)].number
	}
	return 0
}

func (m *model) turn() bool {
	at := m.lowest(func(r record) bool { return r.there && r.number > m.now })
	if at < 0 {
		return false
	}
	m.retire(m.lowest(func(r record) bool { return r.number == m.now }))
	m.now = m.came[at].number
	return true
}

func (m *model) next() (api.Frame, bool) {
	at := m.lowest(func(r record) bool { return r.due })
	if at < 0 {
		return api.Frame{}, false
	}
	m.came[at].due = false
	return gives(m.came[at].number), true
}

func (m *model) lost(f api.Frame) {
	at := m.lowest(func(r record) bool { return r.number == f.Seq && !r.there })
	if f.Kind == 25 && at >= 0 {
		m.came[at].due = true
	}
}

// step is one thing that a Theirs is told, by the name of the call.
type step struct {
	call string
	f    api.Frame
}

func on(f api.Frame) step { return step{"On", f} }

func lost(f api.Frame) step { return step{"Lost", f} }

var turn, next = step{call: "Turn"}, step{call: "Next"}

// do tells both x and m, and holds what they answer against each other.
func do(t *testing.T, x *Theirs, m *model, s step, behind any) {
	t.Helper()
	switch s.call {
	case "On":
		if got, want := x.On(s.f), m.on(s.f); got != want {
			t.Fatalf("P20.2: On(%v): %d, not %d, in %v", s.f, got, want, behind)
		}
	case "Lost":
		x.Lost(s.f)
		m.lost(s.f)
	case "Turn":
		if got, want := x.Turn(), m.turn(); got != want {
			t.Fatalf("P20.2: Turn: %v, not %v, in %v", got, want, behind)
		}
	case "Next":
		got, ok := x.Next()
		if want, is := m.next(); ok != is || !equal(got, want) {
			t.Fatalf("P20.2: Next: %v, %v, not %v, %v, in %v", got, ok, want, is, behind)
		}
	}
	if x.Now() != m.nowCID() || x.Len() != m.len() {
		t.Fatalf("P20.2: Now, Len: %v, %d, not %v, %d, behind %v in %v", x.Now(), x.Len(), m.nowCID(), m.len(), s, behind)
	}
}

// askAll asks x and m all that may be asked of the numbers: which ones came, with which names, which Retires are due, and which ones may be lost.
func askAll(t *testing.T, x *Theirs, m *model, numbers []uint64, behind any) {
	t.Helper()
	for _, n := range numbers {
		// Refused both ways, so that nothing is changed: by the number or the name, if it came, else by the Limit.
		do(t, x, m, on(tells(n, far, api.CID{0xee})), behind)
		do(t, x, m, on(tells(far-9, far, theirName(n))), behind)
	}
	for range len(numbers) + 1 {
		do(t, x, m, next, behind)
	}
	for _, n := range numbers {
		do(t, x, m, lost(gives(n)), behind)
	}
	for range len(numbers) + 1 {
		do(t, x, m, next, behind)
	}
}

func TestOnByHand(t *testing.T) {
	// Ahead of each: 0 and 1 are gone, 2 is used, 5 is there, a Retire of 0 and 1 is due.
	set := func() *Theirs {
		x := Of(theFirst())
		for _, f := range []api.Frame{fits(1, 0), fits(2, 2), fits(5, 0)} {
			x.On(f)
		}
		return x
	}
	for _, c := range []struct {
		f    api.Frame
		code int
		now  uint64
		len  int
		due  []uint64
	}{
		{fits(3, 0), api.NoError, 2, 3, []uint64{0, 1}},
		{fits(3, 3), api.NoError, 3, 2, []uint64{0, 1, 2}},
		{fits(4, 2), api.NoError, 2, 3, []uint64{0, 1}},
		{fits(6, 3), api.NoError, 5, 2, []uint64{0, 1, 2}},
		{fits(6, 5), api.NoError, 5, 2, []uint64{0, 1, 2}},
		{fits(6, 6), api.NoError, 6, 1, []uint64{0, 1, 2, 5}},
		{fits(far, far), api.NoError, far, 1, []uint64{0, 1, 2, 5}},
		{fits(5, 5), api.NoError, 2, 2, []uint64{0, 1}},
		{fits(1, 0), api.NoError, 2, 2, []uint64{0, 1}},
		{fits(1, 1), api.NoError, 2, 2, []uint64{0, 1}},
		{fits(5, 6), api.FrameEncoding, 2, 2, []uint64{0, 1}},
		{fits(6, 7), api.FrameEncoding, 2, 2, []uint64{0, 1}},
		{fits(6, far), api.FrameEncoding, 2, 2, []uint64{0, 1}},
		{tells(5, 0, theirName(6)), api.Violation, 2, 2, []uint64{0, 1}},
		{tells(1, 0, theirName(6)), api.Violation, 2, 2, []uint64{0, 1}},
		{tells(6, 0, theirName(5)), api.Violation, 2, 2, []uint64{0, 1}},
		{tells(6, 0, theirName(0)), api.Violation, 2, 2, []uint64{0, 1}},
		{tells(1, 0, theirName(2)), api.Violation, 2, 2, []uint64{0, 1}},
		{tells(5, 6, theirName(6)), api.Violation, 2, 2, []uint64{0, 1}},
		{tells(6, 7, theirName(5)), api.Violation, 2, 2, []uint64{0, 1}},
	} {
		x := set()
		if got := x.On(c.f); got != c.code || x.Now() != theirName(c.now) || x.Len() != c.len {
			t.Errorf("P20.2: On(%v): %d, %v, %d", c.f, got, x.Now(), x.Len())
		}
		if got := drain(x); !slices.Equal(got, c.due) {
			t.Errorf("P20.2: behind On(%v) are to be retired: %v", c.f, got)
		}
	}
}

// drain is the numbers of all Retires that x has to send.
func drain(x *Theirs) []uint64 {
	var l []uint64
	for {
		f, ok := x.Next()
		if !ok {
			return l
		}
		if !equal(f, gives(f.Seq)) {
			return []uint64{far}
		}
		l = append(l, f.Seq)
	}
}

func TestTooManyChangesNothing(t *testing.T) {
	x := Of(theFirst())
	for n := range uint64(3) {
		x.On(fits(2*n+2, 0))
	}
	for _, f := range []api.Frame{fits(7, 0), fits(1, 0), fits(far, 0)} {
		if got := x.On(f); got != api.Violation || x.Len() != 4 || x.Now() != theFirst() || drain(x) != nil {
			t.Errorf("P20.2, W3: one too many, %v: %d, %d", f, got, x.Len())
		}
	}
	// 7 did not come by what was refused: it comes now, by another name.
	if got := x.On(tells(7, 1, api.CID{0xaa})); got != api.NoError || x.Len() != 4 || x.Now() != theirName(2) || !slices.Equal(drain(x), []uint64{0}) {
		t.Errorf("P20.2: one comes, one goes: %d, %d", got, x.Len())
	}
	if got := x.On(fits(9, 4)); got != api.NoError || x.Len() != 4 || x.Now() != theirName(4) || !slices.Equal(drain(x), []uint64{2}) {
		t.Errorf("P20.2: one comes, one goes: %d, %d", got, x.Len())
	}
}

func TestOtherKinds(t *testing.T) {
	var kinds []int
	for k := -300; k < 300; k++ {
		kinds = append(kinds, k)
	}
	kinds = append(kinds, math.MinInt, math.MaxInt, api.NewCID+1<<32)
	x := Of(theFirst())
	for _, k := range kinds {
		for _, f := range []api.Frame{{}, fits(0, 0), fits(1, 1), fits(1, 2)} {
			if f.Kind = k; k == api.NewCID {
				continue
			}
			if got := x.On(f); got != api.Violation || x.Now() != theFirst() || x.Len() != 1 || drain(x) != nil {
				t.Errorf("P20.2: On of the Kind %d: %d", k, got)
			}
		}
	}
	x.On(fits(1, 1))
	drain(x)
	for _, k := range kinds {
		if k != api.Retire {
			f := gives(0)
			f.Kind = k
			if x.Lost(f); drain(x) != nil {
				t.Errorf("P20.2: Lost of the Kind %d", k)
			}
		}
	}
}

// What a Kind does not ask changes nothing, and is left as it is.
func TestOtherFields(t *testing.T) {
	data, ranges := []byte("abcd"), []api.Range{{Lo: 1, Hi: 2}, {Lo: 5, Hi: 9}}
	fill := func(f api.Frame) api.Frame {
		f.Stream, f.Offset, f.Code, f.Final, f.Delay, f.Fin = far, far, 1, 2, 3, true
		f.Data, f.Ranges = data[:2], ranges[:1]
		return f
	}
	x := Of(theFirst())
	if x.On(fill(fits(1, 1))) != api.NoError || x.On(fits(1, 0)) != api.NoError || x.Now() != theirName(1) {
		t.Errorf("P20.2: On of a full frame: %v", x.Now())
	}
	if l := drain(x); !slices.Equal(l, []uint64{0}) {
		t.Errorf("P20.2: Next: %v", l)
	}
	f := fill(gives(0))
	f.Limit, f.CID = far, api.CID{1}
	if x.Lost(f); !slices.Equal(drain(x), []uint64{0}) {
		t.Error("P20.2: Lost of a full frame")
	}
	if string(data) != "abcd" || !slices.Equal(ranges, []api.Range{{Lo: 1, Hi: 2}, {Lo: 5, Hi: 9}}) {
		t.Errorf("R2: %q, %v", data, ranges)
	}
}

func TestTurnByHand(t *testing.T) {
	x := Of(theFirst())
	if x.Turn() || x.Now() != theFirst() || x.Len() != 1 || drain(x) != nil {
		t.Errorf("P20.2: Turn of one alone: %v", x.Now())
	}
	x.On(fits(9, 0))
	x.On(fits(3, 0))
	for _, c := range []struct {
		ok  bool
		now uint64
		due []uint64
	}{{true, 3, []uint64{0}}, {true, 9, []uint64{3}}, {false, 9, nil}} {
		if ok := x.Turn(); ok != c.ok || x.Now() != theirName(c.now) || !slices.Equal(drain(x), c.due) {
			t.Errorf("P20.2: Turn: %v, %v", ok, x.Now())
		}
	}
	// One below the used one is not turned to, but used when that is retired.
	x.On(fits(5, 0))
	x.On(fits(7, 0))
	if x.Turn() || x.Now() != theirName(9) || x.Len() != 3 {
		t.Errorf("P20.2: Turn with lower ones alone: %v", x.Now())
	}
	x.On(fits(12, 6))
	if x.Now() != theirName(9) || !slices.Equal(drain(x), []uint64{5}) {
		t.Errorf("P20.2: a Limit below the used one: %v", x.Now())
	}
	if !x.Turn() || x.Now() != theirName(12) || x.Len() != 2 || !slices.Equal(drain(x), []uint64{9}) {
		t.Errorf("P20.2: Turn: %v", x.Now())
	}
	x.On(fits(14, 13))
	if x.Now() != theirName(14) || x.Len() != 1 || !slices.Equal(drain(x), []uint64{7, 12}) {
		t.Errorf("P20.2: a Limit above the used one: %v", x.Now())
	}
}

// A Limit tells of what is there: a lower number that comes behind it is there too, as a number like any other.
func TestLimitOfThoseThere(t *testing.T) {
	x := Of(theFirst())
	x.On(fits(5, 5))
	if x.On(fits(3, 0)) != api.NoError || x.Len() != 2 || x.Now() != theirName(5) || !slices.Equal(drain(x), []uint64{0}) {
		t.Errorf("P20.2: a lower one behind a Limit: %d, %v", x.Len(), x.Now())
	}
	x.On(fits(6, 6))
	if x.Now() != theirName(6) || x.Len() != 1 || !slices.Equal(drain(x), []uint64{3, 5}) {
		t.Errorf("P20.2: the next Limit: %d, %v", x.Len(), x.Now())
	}
}

func TestNextAndLost(t *testing.T) {
	x := Of(theFirst())
	for n := range uint64(3) {
		x.On(fits(n+1, 0))
	}
	if f, ok := x.Next(); ok || !equal(f, api.Frame{}) {
		t.Errorf("P20.2: Next of none: %v, %v", f, ok)
	}
	for range 3 {
		x.Turn()
	}
	// Lost ahead of its being sent: it is to be sent, as it was, once.
	x.Lost(gives(1))
	x.Lost(gives(3))
	x.Lost(gives(4))
	x.Lost(gives(far))
	if f, ok := x.Next(); !ok || !equal(f, gives(0)) {
		t.Errorf("P20.2: Next: %v, %v", f, ok)
	}
	// The lowest first, though it is due behind the others.
	x.Lost(gives(0))
	if l := drain(x); !slices.Equal(l, []uint64{0, 1, 2}) {
		t.Errorf("P20.2: Next: %v", l)
	}
	for range 2 {
		x.Lost(gives(2))
		x.Lost(gives(0))
		x.Lost(gives(2))
		if l := drain(x); !slices.Equal(l, []uint64{0, 2}) {
			t.Errorf("P20.2: Next behind Lost: %v", l)
		}
	}
	if x.Len() != 1 || x.Now() != theirName(3) {
		t.Errorf("P20.2: behind all of it: %d, %v", x.Len(), x.Now())
	}
}

func TestNumbersOfAnySize(t *testing.T) {
	x := Of(theFirst())
	all := []uint64{far, api.MaxVar, api.MaxVar + 1}
	for i, n := range all {
		c := api.CID{0xff, byte(i)}
		if x.On(tells(n, 0, c)) != api.NoError || x.On(tells(n, 0, api.CID{1})) != api.Violation || x.On(tells(1, 0, c)) != api.Violation {
			t.Errorf("P20.2: On of %d", n)
		}
	}
	x.Turn()
	if x.Now() != (api.CID{0xff, 1}) {
		t.Errorf("P20.2: Turn to MaxVar: %v", x.Now())
	}
	x.Turn()
	x.Turn()
	if x.Turn() || x.Now() != (api.CID{0xff, 0}) || x.Len() != 1 {
		t.Errorf("P20.2: Turn to the greatest: %v", x.Now())
	}
	if l := drain(x); !slices.Equal(l, []uint64{0, api.MaxVar, api.MaxVar + 1}) {
		t.Errorf("P20.2: Next: %v", l)
	}
	if x.On(tells(far-1, far, api.CID{3})) != api.FrameEncoding || x.On(tells(far-1, far-1, api.CID{3})) != api.NoError || x.Len() != 2 || drain(x) != nil {
		t.Errorf("P20.2: a Limit at the edge: %d", x.Len())
	}
}

// A name of zero bytes alone is one like any other.
func TestZeroName(t *testing.T) {
	x, o := Of(api.CID{}), New(api.CID{}, 5)
	if x.Now() != (api.CID{}) || !o.Has(api.CID{}) || x.On(tells(1, 0, api.CID{})) != api.Violation || x.On(tells(0, 0, api.CID{})) != api.NoError {
		t.Error("P20.2: the name of zero bytes, at first")
	}
	o.Issue()
	o.Retire(0)
	if o.Has(api.CID{}) {
		t.Error("P20.1: the name of zero bytes, retired")
	}
	y := Of(theFirst())
	if y.On(tells(1, 1, api.CID{})) != api.NoError || y.Now() != (api.CID{}) || y.On(tells(2, 0, api.CID{})) != api.Violation || y.Len() != 1 {
		t.Error("P20.2: the name of zero bytes, later")
	}
}

func smallSteps() []step {
	steps := []step{turn, next, on(gives(1)), lost(fits(0, 0))}
	for n := range uint64(5) {
		steps = append(steps, on(fits(n, 0)), lost(gives(n)))
	}
	return append(steps,
		on(fits(2, 1)), on(fits(3, 2)), on(fits(3, 3)), on(fits(7, 3)), on(fits(7, 6)), on(fits(8, 8)), on(fits(2, 3)),
		on(tells(1, 0, theirName(2))), on(tells(2, 0, theirName(0))), on(tells(3, 0, api.CID{0xdd})))
}

func TestTheirsSmallRows(t *testing.T) {
	steps := smallSteps()
	numbers := []uint64{0, 1, 2, 3, 4, 5, 6, 7, 8, far}
	for _, beginning := range [][]step{
		nil,
		{on(fits(1, 0)), on(fits(2, 0))},
		{on(fits(1, 0)), on(fits(2, 0)), on(fits(3, 0))},
		{on(fits(3, 0)), turn},
		{on(fits(2, 2)), next, on(fits(5, 0))},
		{on(fits(4, 0)), on(fits(6, 0)), turn, turn, on(fits(5, 0)), on(fits(2, 0))},
	} {
		for n := range len(steps) * len(steps) * len(steps) {
			row := slices.Clone(beginning)
			for range 3 {
				row = append(row, steps[n%len(steps)])
				n /= len(steps)
			}
			x, m := Of(theFirst()), modelOf(theFirst())
			for _, s := range row {
				do(t, x, m, s, row)
			}
			askAll(t, x, m, numbers, row)
		}
	}
}

func TestTheirsLongRows(t *testing.T) {
	r := rand.New(rand.NewSource(21))
	for round := range 200 {
		x, m := Of(theFirst()), modelOf(theFirst())
		var numbers []uint64
		for i := range uint64(60) {
			numbers = append(numbers, i)
			n, at := i/2+uint64(r.Intn(6)), i/2+uint64(r.Intn(6))
			c := theirName(n)
			if r.Intn(8) == 0 {
				c = theirName(at)
			}
			s := []step{turn, next, lost(gives(n)), on(fits(n, 0)), on(tells(n, 0, c)), on(tells(n, at, c))}[r.Intn(6)]
			do(t, x, m, s, round)
		}
		askAll(t, x, m, numbers, round)
	}
}

// Many come and go: all of them are remembered, and all is still quick.
func TestMany(t *testing.T) {
	const many = 200000
	x := Of(api.CID(mix.Bytes(0)))
	for n := uint64(1); n <= many; n++ {
		if x.On(tells(n, n, mix.Bytes(n))) != api.NoError || x.Len() != 1 || x.Now() != api.CID(mix.Bytes(n)) {
			t.Fatalf("P20.2: number %d", n)
		}
	}
	for range 2 {
		for n := range uint64(many) {
			if f, ok := x.Next(); !ok || f.Seq != n {
				t.Fatalf("P20.2: Next: %v, %v, not %d", f, ok, n)
			}
		}
		for n := range uint64(many) {
			x.Lost(gives(n))
		}
	}
	for n := range uint64(many) {
		if x.On(tells(n, 0, mix.Bytes(far))) != api.Violation || x.On(tells(many+1, 0, mix.Bytes(n))) != api.Violation || x.On(tells(n, n, mix.Bytes(n))) != api.NoError {
			t.Fatalf("P20.2: number %d was there", n)
		}
	}
}

// way is what lies between an Own and the Theirs of the other end.
type way struct {
	t        *testing.T
	r        *rand.Rand
	o        *Own
	x        *Theirs
	to, back []api.Frame
}

// pick takes one of l out, or leaves it there to come twice.
func (w *way) pick(l []api.Frame, twice bool) (api.Frame, []api.Frame) {
	i := w.r.Intn(len(l))
	f := l[i]
	if !twice {
		l = slices.Delete(l, i, i+1)
	}
	return f, l
}

// deliver brings something to both ends, in no order.
func (w *way) deliver(twice bool) {
	var f api.Frame
	if len(w.to) > 0 {
		f, w.to = w.pick(w.to, twice)
		if code := w.x.On(f); code != api.NoError {
			w.t.Fatalf("W3: On(%v): %d", f, code)
		}
	}
	if len(w.back) > 0 {
		f, w.back = w.pick(w.back, twice)
		// ErrNone where it comes again, never ErrState: one is still used.
		if _, why := w.o.Retire(f.Seq); why != api.OK && why != api.ErrNone {
			w.t.Fatalf("W3: Retire(%d): %v", f.Seq, why)
		}
	}
}

// act does one thing at one end, or loses what is under way.
func (w *way) act() {
	switch w.r.Intn(5) {
	case 0:
		if f, ok := w.o.Issue(); ok {
			w.to = append(w.to, f)
		}
	case 1:
		w.x.Turn()
	case 2:
		if f, ok := w.x.Next(); ok {
			w.back = append(w.back, f)
		}
	case 3:
		w.deliver(w.r.Intn(3) == 0)
	case 4:
		if len(w.back) > 0 {
			var f api.Frame
			f, w.back = w.pick(w.back, false)
			w.x.Lost(f)
		}
	}
}

func TestMeetOverABadWay(t *testing.T) {
	r := rand.New(rand.NewSource(22))
	for round := range 100 {
		w := &way{t: t, r: r, o: New(theFirst(), uint64(round)), x: Of(theFirst())}
		for range 400 {
			w.act()
			if !w.o.Has(w.x.Now()) || w.x.Len() < 1 || w.x.Len() > api.MaxCIDs || len(w.o.All()) > api.MaxCIDs {
				t.Fatalf("W3: round %d: %v, %d, %v", round, w.x.Now(), w.x.Len(), w.o.All())
			}
		}
		for {
			f, ok := w.x.Next()
			if !ok {
				break
			}
			w.back = append(w.back, f)
		}
		for len(w.to) > 0 || len(w.back) > 0 {
			w.deliver(false)
		}
		if w.x.Len() != len(w.o.All()) || !w.o.Has(w.x.Now()) {
			t.Errorf("W3: round %d: at the end %d and %d names", round, w.x.Len(), len(w.o.All()))
		}
	}
}
