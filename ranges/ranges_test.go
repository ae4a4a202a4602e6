package ranges

import (
	"math"
	"math/rand"
	"slices"
	"testing"

	"narthex/api"
)

// top is the first number that no set holds.
const top = api.MaxVar + 1

// wide is how many numbers in a row a model goes over.
const wide = 7

// greatest is what a set may be given as its most, so that it never drops any.
const greatest = math.MaxInt

// rows makes ranges of pairs.
func rows(l ...uint64) []api.Range {
	var out []api.Range
	for i := 0; i < len(l); i += 2 {
		out = append(out, api.Range{Lo: l[i], Hi: l[i+1]})
	}
	return out
}

// of is a set of those ranges, added in their order.
func of(most int, l ...uint64) *Set {
	s := New(most)
	for _, r := range rows(l...) {
		s.Add(r.Lo, r.Hi)
	}
	return s
}

// model is a set by the chapter's words: which of the numbers from base on are in it, one by one.
type model struct {
	base uint64
	most int
	in   []bool
}

// ranges are the model's numbers as rising ranges that do not touch.
func (m *model) ranges() []api.Range {
	var out []api.Range
	for i, in := range m.in {
		n := m.base + uint64(i)
		switch {
		case !in:
		case i > 0 && m.in[i-1]:
			out[len(out)-1].Hi = n + 1
		default:
			out = append(out, api.Range{Lo: n, Hi: n + 1})
		}
	}
	return out
}

// put sets or clears the numbers from lo on, below hi, and drops the lowest ranges of too many.
func (m *model) put(lo, hi uint64, in bool) {
	for n := lo; n < hi; n++ {
		if n >= m.base && n-m.base < uint64(len(m.in)) {
			m.in[n-m.base] = in
		}
	}
	l := m.ranges()
	for len(l) > max(m.most, 1) {
		for n := l[0].Lo; n < l[0].Hi; n++ {
			m.in[n-m.base] = false
		}
		l = l[1:]
	}
}

// some is whether some of the numbers from lo on, below hi is in it.
func (m *model) some(lo, hi uint64) bool {
	for n := lo; n < hi; n++ {
		if m.has(n) {
			return true
		}
	}
	return false
}

func (m *model) has(n uint64) bool {
	return n >= m.base && n-m.base < uint64(len(m.in)) && m.in[n-m.base]
}

// gap is P10.2's Gap, number by number.
func (m *model) gap(from, to uint64) (api.Range, bool) {
	for from < to && m.has(from) {
		from++
	}
	if from >= to {
		return api.Range{}, false
	}
	end := from
	for end < to && !m.has(end) {
		end++
	}
	return api.Range{Lo: from, Hi: end}, true
}

// set is a set of the model's numbers.
func (m *model) set() *Set {
	s := New(m.most)
	for _, r := range m.ranges() {
		s.Add(r.Lo, r.Hi)
	}
	return s
}

// alike holds every answer of s against the model's.
func alike(t *testing.T, what string, s *Set, m *model) {
	t.Helper()
	l, all := m.ranges(), s.All()
	if !slices.Equal(all, l) || s.Len() != len(l) {
		t.Fatalf("P10.1: %s, at most %d: All %v, Len %d, not %v", what, m.most, all, s.Len(), l)
	}
	count, largest, any := uint64(0), uint64(0), false
	for i, in := range m.in {
		n := m.base + uint64(i)
		if s.Has(n) != in {
			t.Fatalf("P10.1: %s: Has(%d) of %v: %t", what, n, l, !in)
		}
		if in {
			count, largest, any = count+1, n, true
		}
	}
	if got := s.Count(); got != count {
		t.Fatalf("P10.1: %s: Count of %v: %d, not %d", what, l, got, count)
	}
	if got, ok := s.Largest(); got != largest || ok != any {
		t.Fatalf("P10.1: %s: Largest of %v: %d, %t, not %d, %t", what, l, got, ok, largest, any)
	}
}

// models are all that a set of wide numbers from base on can be, with as few ranges at most as they have, one more, and any number.
func models(base uint64) []*model {
	var l []*model
	for bits := range 1 << wide {
		m := &model{base: base, in: make([]bool, wide)}
		for i := range m.in {
			m.in[i] = bits>>i&1 == 1
		}
		own := len(m.ranges())
		for _, most := range []int{own, own + 1, greatest} {
			l = append(l, &model{base, max(most, 1), slices.Clone(m.in)})
		}
	}
	return l
}

// bases are where models begin: at the least number, in the midst, and so that they end with the greatest.
func bases() []uint64 { return []uint64{0, 1 << 40, top - wide} }

// each calls f with every pair of numbers that a model from base on holds or ends with.
func each(base uint64, f func(lo, hi uint64)) {
	for i := range uint64(wide + 1) {
		for j := range uint64(wide + 1) {
			f(base+i, base+j)
		}
	}
}

func TestAddMakesOneOfWhatMeetsOrTouches(t *testing.T) {
	for _, c := range []struct {
		add, want []uint64
	}{
		{nil, nil},
		{[]uint64{1, 3, 3, 5}, []uint64{1, 5}}, // the chapter's run
		{[]uint64{3, 5, 1, 3}, []uint64{1, 5}},
		{[]uint64{1, 3, 4, 5}, []uint64{1, 3, 4, 5}},
		{[]uint64{4, 5, 1, 3}, []uint64{1, 3, 4, 5}},
		{[]uint64{1, 3, 4, 6, 3, 4}, []uint64{1, 6}},
		{[]uint64{1, 3, 4, 6, 2, 5}, []uint64{1, 6}},
		{[]uint64{1, 3, 5, 7, 9, 11, 2, 6}, []uint64{1, 7, 9, 11}},
		{[]uint64{1, 3, 5, 7, 9, 11, 3, 9}, []uint64{1, 11}},
		{[]uint64{1, 3, 5, 7, 9, 11, 0, 20}, []uint64{0, 20}},
		{[]uint64{1, 9, 3, 4}, []uint64{1, 9}},
		{[]uint64{1, 9, 1, 9}, []uint64{1, 9}},
		{[]uint64{1, 9, 0, 12}, []uint64{0, 12}},
		{[]uint64{0, 1, 0, 2}, []uint64{0, 2}},
		{[]uint64{0, top}, []uint64{0, top}},
		{[]uint64{api.MaxVar, top, 0, 1, api.MaxVar - 1, api.MaxVar}, []uint64{0, 1, api.MaxVar - 1, top}},
	} {
		s := New(greatest)
		for _, r := range rows(c.add...) {
			if !s.Add(r.Lo, r.Hi) {
				t.Errorf("P10.1: Add(%d, %d) of %v: false", r.Lo, r.Hi, c.add)
			}
		}
		if got := s.All(); !slices.Equal(got, rows(c.want...)) || s.Len() != len(c.want)/2 {
			t.Errorf("P10.1: Add of %v: %v, not %v", c.add, got, c.want)
		}
	}
}

func TestAddRefuses(t *testing.T) {
	for _, held := range [][]uint64{nil, {1, 3}, {1, 3, 5, 9}, {0, top}, {0, 1, api.MaxVar, top}} {
		for _, c := range [][2]uint64{
			{5, 5}, // the chapter's example
			{0, 0}, {6, 5}, {2, 1}, {1, 0}, {2, 2}, {top, top}, {top, 0}, {math.MaxUint64, 0}, {math.MaxUint64, math.MaxUint64},
			{0, top + 1}, {api.MaxVar, top + 1}, {top, top + 1}, {3, top + 1}, {0, 1 << 63}, {0, math.MaxUint64}, {top, math.MaxUint64}, {math.MaxUint64 - 1, math.MaxUint64},
		} {
			s := of(2, held...)
			if s.Add(c[0], c[1]) || !slices.Equal(s.All(), rows(held...)) {
				t.Errorf("P10.1: Add(%d, %d) to %v: not refused, or %v", c[0], c[1], held, s.All())
			}
		}
	}
	s := New(1)
	if !s.Add(0, top) || s.Count() != top || !s.Has(0) || !s.Has(api.MaxVar) || s.Has(top) {
		t.Errorf("P10.1: all there is: %v", s.All())
	}
}

func TestAddDropsTheLowestOfTooMany(t *testing.T) {
	for _, c := range []struct {
		most   int
		held   []uint64
		lo, hi uint64
		ok     bool
		want   []uint64
	}{
		{2, []uint64{10, 11, 20, 21}, 5, 6, false, []uint64{10, 11, 20, 21}},
		{2, []uint64{10, 11, 20, 21}, 0, 9, false, []uint64{10, 11, 20, 21}},
		{2, []uint64{10, 11, 20, 21}, 9, 10, true, []uint64{9, 11, 20, 21}}, // none too many
		{2, []uint64{10, 11, 20, 21}, 15, 16, true, []uint64{15, 16, 20, 21}},
		{2, []uint64{10, 11, 20, 21}, 30, 31, true, []uint64{20, 21, 30, 31}},
		{2, []uint64{10, 11, 20, 21}, 11, 20, true, []uint64{10, 21}},
		{2, []uint64{10, 11, 20, 21}, 0, 30, true, []uint64{0, 30}},
		{3, []uint64{10, 11, 20, 21}, 5, 6, true, []uint64{5, 6, 10, 11, 20, 21}},
		{1, []uint64{10, 11}, 5, 6, false, []uint64{10, 11}},
		{1, []uint64{10, 11}, 12, 13, true, []uint64{12, 13}},
		{1, []uint64{10, 11}, 11, 12, true, []uint64{10, 12}},
	} {
		s := of(c.most, c.held...)
		if ok := s.Add(c.lo, c.hi); ok != c.ok || !slices.Equal(s.All(), rows(c.want...)) {
			t.Errorf("P10.1: Add(%d, %d) to %v, at most %d: %t, %v", c.lo, c.hi, c.held, c.most, ok, s.All())
		}
	}
}

func TestNewTakesAnyMost(t *testing.T) {
	for _, most := range []int{math.MinInt, -5, -1, 0, 1} {
		if got := of(most, 1, 2, 5, 6).All(); !slices.Equal(got, rows(5, 6)) {
			t.Errorf("P10.1: New(%d): %v, not the highest range alone", most, got)
		}
	}
	for _, most := range []int{2, 3, api.MaxRanges, 100, greatest} {
		s := New(most)
		for i := range uint64(200) {
			s.Add(2*i, 2*i+1)
		}
		n := min(most, 200)
		all := s.All()
		if s.Len() != n || len(all) != n || all[0].Lo != uint64(2*(200-n)) || all[n-1].Hi != 399 {
			t.Errorf("P10.1: New(%d): %d ranges, %v", most, s.Len(), all)
		}
	}
}

func TestCutLeavesBothSides(t *testing.T) {
	for _, c := range []struct {
		most   int
		held   []uint64
		lo, hi uint64
		want   []uint64
	}{
		{9, []uint64{1, 9}, 3, 5, []uint64{1, 3, 5, 9}}, // the chapter's example
		{9, []uint64{1, 9}, 1, 9, nil},
		{9, []uint64{1, 9}, 0, 1, []uint64{1, 9}},
		{9, []uint64{1, 9}, 9, 12, []uint64{1, 9}},
		{9, []uint64{1, 9}, 0, 2, []uint64{2, 9}},
		{9, []uint64{1, 9}, 8, 12, []uint64{1, 8}},
		{9, []uint64{1, 9, 12, 15, 20, 30}, 5, 25, []uint64{1, 5, 25, 30}},
		{9, []uint64{1, 9, 12, 15, 20, 30}, 9, 20, []uint64{1, 9, 20, 30}},
		{9, []uint64{1, 9, 12, 15}, 5, 5, []uint64{1, 9, 12, 15}},
		{9, []uint64{1, 9, 12, 15}, 6, 5, []uint64{1, 9, 12, 15}},
		{9, []uint64{1, 9, 12, 15}, 13, 2, []uint64{1, 9, 12, 15}},
		{9, []uint64{1, 9, 12, 15}, 0, math.MaxUint64, nil},
		{9, []uint64{1, 9, 12, 15}, 4, math.MaxUint64, []uint64{1, 4}},
		{9, []uint64{1, 9, 12, 15}, math.MaxUint64, 4, []uint64{1, 9, 12, 15}},
		{9, []uint64{0, top}, api.MaxVar, top, []uint64{0, api.MaxVar}},
		{9, []uint64{0, top}, api.MaxVar, math.MaxUint64, []uint64{0, api.MaxVar}},
		{9, []uint64{0, top}, top, math.MaxUint64, []uint64{0, top}},
		{9, []uint64{0, top}, 0, api.MaxVar, []uint64{api.MaxVar, top}},
		{9, nil, 0, 5, nil},
		{2, []uint64{1, 9, 12, 15}, 13, 14, []uint64{12, 13, 14, 15}}, // too many
		{2, []uint64{1, 9, 12, 15}, 3, 5, []uint64{5, 9, 12, 15}},
		{1, []uint64{1, 9}, 3, 5, []uint64{5, 9}},
		{2, []uint64{1, 9, 12, 15}, 3, 13, []uint64{1, 3, 13, 15}},
	} {
		s := of(c.most, c.held...)
		if s.Cut(c.lo, c.hi); !slices.Equal(s.All(), rows(c.want...)) || s.Len() != len(c.want)/2 {
			t.Errorf("P10.1: Cut(%d, %d) of %v, at most %d: %v, not %v", c.lo, c.hi, c.held, c.most, s.All(), c.want)
		}
	}
}

func TestEveryAddAndCutNumberByNumber(t *testing.T) {
	for _, base := range bases() {
		for _, m := range models(base) {
			alike(t, "built", m.set(), m)
			each(base, func(lo, hi uint64) {
				added, cut := *m, *m
				added.in, cut.in = slices.Clone(m.in), slices.Clone(m.in)
				added.put(lo, hi, true)
				s := m.set()
				if ok := s.Add(lo, hi); ok != added.some(lo, hi) {
					t.Fatalf("P10.1: Add(%d, %d) to %v, at most %d: %t", lo, hi, m.ranges(), m.most, ok)
				}
				alike(t, "Add", s, &added)
				cut.put(lo, hi, false)
				s = m.set()
				s.Cut(lo, hi)
				alike(t, "Cut", s, &cut)
			})
		}
	}
}

func TestManyAddsAndCutsInARow(t *testing.T) {
	q := rand.New(rand.NewSource(10))
	for _, most := range []int{1, 2, 3, 5, api.MaxRanges, greatest} {
		m := &model{base: 1 << 20, most: most, in: make([]bool, 60)}
		s := New(most)
		for range 4000 {
			lo := m.base + uint64(q.Intn(60))
			hi := min(lo+uint64(q.Intn(9)), m.base+60)
			if q.Intn(3) > 0 {
				m.put(lo, hi, true)
				if ok := s.Add(lo, hi); ok != m.some(lo, hi) {
					t.Fatalf("P10.1: Add(%d, %d), at most %d: %t", lo, hi, most, ok)
				}
			} else {
				m.put(lo, hi, false)
				s.Cut(lo, hi)
			}
			alike(t, "in a row", s, m)
		}
	}
}

func TestHasOfNumbersOfAnySize(t *testing.T) {
	far := []uint64{0, 1, 4, 8, 9, api.MaxVar - 1, api.MaxVar, top, 1 << 63, math.MaxUint64}
	for _, c := range []struct{ held, in []uint64 }{
		{nil, nil}, {[]uint64{0, 1}, []uint64{0}}, {[]uint64{1, 9}, []uint64{1, 4, 8}},
		{[]uint64{api.MaxVar, top}, []uint64{api.MaxVar}}, {[]uint64{0, top}, far[:7]},
	} {
		s := of(9, c.held...)
		for _, n := range far {
			if s.Has(n) != slices.Contains(c.in, n) {
				t.Errorf("P10.1: Has(%d) of %v: %t", n, c.held, s.Has(n))
			}
		}
	}
}

func TestAllOfNone(t *testing.T) {
	s := of(3, 1, 2)
	s.Cut(1, 2)
	for _, s := range []*Set{New(3), s, New(3).Copy()} {
		n, ok := s.Largest()
		if len(s.All()) != 0 || s.Len() != 0 || s.Count() != 0 || n != 0 || ok || s.Has(0) || s.Has(1) {
			t.Errorf("P10.1: a set of none: %v, Len %d, Count %d, Largest %d, %t", s.All(), s.Len(), s.Count(), n, ok)
		}
	}
}

func TestGapIsTheFirstOne(t *testing.T) {
	for _, c := range []struct {
		held     []uint64
		from, to uint64
		want     api.Range
		ok       bool
	}{
		{nil, 0, 1, api.Range{Lo: 0, Hi: 1}, true},
		{nil, 0, 0, api.Range{}, false},
		{nil, 7, 3, api.Range{}, false},
		{nil, 0, math.MaxUint64, api.Range{Lo: 0, Hi: math.MaxUint64}, true},
		{[]uint64{1, 3, 5, 9}, 0, 20, api.Range{Lo: 0, Hi: 1}, true},
		{[]uint64{1, 3, 5, 9}, 1, 20, api.Range{Lo: 3, Hi: 5}, true},
		{[]uint64{1, 3, 5, 9}, 3, 4, api.Range{Lo: 3, Hi: 4}, true},
		{[]uint64{1, 3, 5, 9}, 4, 20, api.Range{Lo: 4, Hi: 5}, true},
		{[]uint64{1, 3, 5, 9}, 5, 20, api.Range{Lo: 9, Hi: 20}, true},
		{[]uint64{1, 3, 5, 9}, 5, 10, api.Range{Lo: 9, Hi: 10}, true},
		{[]uint64{1, 3, 5, 9}, 5, 9, api.Range{}, false},
		{[]uint64{1, 3, 5, 9}, 1, 3, api.Range{}, false},
		{[]uint64{1, 3, 5, 9}, 9, 9, api.Range{}, false},
		{[]uint64{1, 3, 5, 9}, 4, 4, api.Range{}, false},
		{[]uint64{1, 3, 5, 9}, 20, 5, api.Range{}, false},
		{[]uint64{1, 3, 5, 9}, 4, 3, api.Range{}, false},
		{[]uint64{1, 3, 5, 9}, 8, 2, api.Range{}, false},
		{[]uint64{1, 3, 5, 9}, 30, 31, api.Range{Lo: 30, Hi: 31}, true},
		{[]uint64{0, top}, 0, top, api.Range{}, false},
		{[]uint64{0, top}, 0, top + 1, api.Range{Lo: top, Hi: top + 1}, true},
		{[]uint64{0, top}, 5, math.MaxUint64, api.Range{Lo: top, Hi: math.MaxUint64}, true},
		{[]uint64{0, top}, math.MaxUint64 - 1, math.MaxUint64, api.Range{Lo: math.MaxUint64 - 1, Hi: math.MaxUint64}, true},
		{[]uint64{0, top}, math.MaxUint64, math.MaxUint64, api.Range{}, false},
		{[]uint64{0, top}, math.MaxUint64, 0, api.Range{}, false},
	} {
		s := of(9, c.held...)
		if got, ok := s.Gap(c.from, c.to); got != c.want || ok != c.ok || !slices.Equal(s.All(), rows(c.held...)) {
			t.Errorf("P10.2: Gap(%d, %d) of %v: %v, %t", c.from, c.to, c.held, got, ok)
		}
	}
}

func TestEveryGapNumberByNumber(t *testing.T) {
	for _, base := range bases() {
		for _, m := range models(base) {
			s := m.set()
			each(base, func(from, to uint64) {
				// Beyond what the model holds too.
				for _, to := range []uint64{to, to + 3} {
					want, wantOK := m.gap(from, to)
					if got, ok := s.Gap(from, to); got != want || ok != wantOK {
						t.Fatalf("P10.2: Gap(%d, %d) of %v: %v, %t, not %v, %t", from, to, m.ranges(), got, ok, want, wantOK)
					}
				}
			})
		}
	}
}

func TestCopyIsByItself(t *testing.T) {
	for name, change := range map[string]func(s *Set){
		"Add behind":   func(s *Set) { s.Add(20, 30) },
		"Add ahead":    func(s *Set) { s.Add(0, 1) },
		"Add between":  func(s *Set) { s.Add(6, 7) },
		"Add touching": func(s *Set) { s.Add(5, 8) },
		"Add over all": func(s *Set) { s.Add(0, 50) },
		"Cut midst":    func(s *Set) { s.Cut(3, 4) },
		"Cut an end":   func(s *Set) { s.Cut(2, 3) },
		"Cut one":      func(s *Set) { s.Cut(2, 5) },
		"Cut all":      func(s *Set) { s.Cut(0, 50) },
	} {
		for _, most := range []int{2, 3, 9} {
			held := rows(2, 5, 8, 12)
			s := of(most, 2, 5, 8, 12)
			other := s.Copy()
			if !slices.Equal(other.All(), held) {
				t.Fatalf("P10.2: Copy: %v", other.All())
			}
			change(other)
			if !slices.Equal(s.All(), held) {
				t.Errorf("P10.2: %s, of a copy: the set is %v", name, s.All())
			}
			changed := other.All()
			other = s.Copy()
			change(s)
			if !slices.Equal(other.All(), held) {
				t.Errorf("P10.2: %s, of a set: its copy is %v", name, other.All())
			}
			if !slices.Equal(s.All(), changed) {
				t.Errorf("P10.2: %s, at most %d: %v of the set, %v of its copy", name, most, s.All(), changed)
			}
		}
	}
}

func TestCopyKeepsAsManyAtMost(t *testing.T) {
	for _, most := range []int{0, 1, 2, 5} {
		for _, s := range []*Set{New(most).Copy(), of(most, 0, 1, 2, 3).Copy(), of(most, 0, 1).Copy().Copy()} {
			for i := range uint64(20) {
				s.Add(100+2*i, 101+2*i)
			}
			if s.Len() != max(most, 1) {
				t.Errorf("P10.2: a copy of New(%d): %d ranges", most, s.Len())
			}
		}
	}
}

func TestAllIsNewMemory(t *testing.T) {
	s := of(9, 1, 3, 5, 9, 12, 15)
	l := s.All()
	room := l[:cap(l)]
	for i := range room {
		room[i] = api.Range{Lo: 77, Hi: 7}
	}
	if !slices.Equal(s.All(), rows(1, 3, 5, 9, 12, 15)) {
		t.Errorf("R2: written to what All answered: %v", s.All())
	}
	l = s.All()
	s.Add(20, 21)
	s.Cut(0, 6)
	s.Add(0, 1)
	if !slices.Equal(l, rows(1, 3, 5, 9, 12, 15)) {
		t.Errorf("R2: what All answered, behind changes: %v", l)
	}
	if other := New(9); other.Len() != 0 || s.Len() != 4 {
		t.Errorf("R2: another set: %v, beside %v", other.All(), s.All())
	}
}

func TestManyRanges(t *testing.T) {
	const n = 1 << 13
	s := New(greatest)
	for i := range uint64(n) {
		s.Add(3*(n-1-i), 3*(n-1-i)+1)
	}
	if s.Len() != n || s.Count() != n {
		t.Fatalf("P10.1: %d ranges, %d numbers", s.Len(), s.Count())
	}
	if r, ok := s.Gap(3*n/2, 3*n); !ok || r.Lo != 3*n/2+1 || r.Hi != 3*n/2+3 {
		t.Errorf("P10.2: Gap in the midst of many: %v, %t", r, ok)
	}
	s.Cut(3, 3*n-3)
	if !slices.Equal(s.All(), rows(0, 1, 3*n-3, 3*n-2)) {
		t.Errorf("P10.1: Cut of many: %v", s.All())
	}
}
