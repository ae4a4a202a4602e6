package streams

import "slices"

// marks are those offsets of a stream, from base on, of which something holds.
type marks struct {
	base uint64
	set  []bool // of base+i at i; none lies behind it
}

// add marks the offsets from lo on, below hi, as far as they are not below base.
func (m *marks) add(lo, hi uint64) {
	for off := max(lo, m.base); off < hi; off++ {
		i := int(off - m.base)
		if lacks := i + 1 - len(m.set); lacks > 0 {
			m.set = append(m.set, make([]bool, lacks)...)
		}
		m.set[i] = true
	}
}

// cut puts base up to to, and forgets what lies below.
func (m *marks) cut(to uint64) {
	m.set = slices.Delete(m.set, 0, int(min(to-m.base, uint64(len(m.set)))))
	m.base = to
}

// slide puts base behind the offsets that are marked from it on without a gap.
func (m *marks) slide() {
	n := slices.Index(m.set, false)
	if n < 0 {
		n = len(m.set)
	}
	m.cut(m.base + uint64(n))
}

// count is how many are marked.
func (m *marks) count() int {
	n := 0
	for _, is := range m.set {
		if is {
			n++
		}
	}
	return n
}
