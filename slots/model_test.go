package slots

import (
	"bytes"
	"math/rand"
	"slices"
	"testing"

	"bastide/api"
)

// A model reads the chapter's words again: it keeps all that was said, and finds in that what is asked.
type model struct {
	crew api.Crew
	low  int
	said []told
	p    map[int]api.Stand
}

// told is something that was said at a number: by a node that prepares or commits, or proposed.
type told struct {
	what      byte // 'o' proposed, 'r' prepares, 'c' commits
	node      int
	view, seq int
	d         api.Digest
}

func newModel(c api.Crew, low int) *model {
	return &model{crew: c, low: low, p: map[int]api.Stand{}}
}

// last is the last one that was said at a number.
func (m *model) last(what byte, node, seq int) (told, bool) {
	for i := len(m.said) - 1; i >= 0; i-- {
		if x := m.said[i]; x.what == what && x.node == node && x.seq == seq {
			return x, true
		}
	}
	return told{}, false
}

// count is how many nodes say last what was proposed last; -1, if nothing was.
func (m *model) count(what byte, seq int) int {
	p, is := m.last('o', 0, seq)
	if !is {
		return -1
	}
	n := 0
	for _, node := range m.crew.Nodes {
		if v, is := m.last(what, node, seq); is && v.view == p.view && v.d == p.d {
			n++
		}
	}
	return n
}

func (m *model) prepared(seq int) bool {
	return m.count('r', seq) >= 2*m.crew.Faults
}

func (m *model) committed(seq int) bool {
	return m.prepared(seq) && m.count('c', seq) > 2*m.crew.Faults
}

func (m *model) add(x told) api.Errno {
	if x.view < 0 || x.view > 1048576 {
		return api.ErrView
	}
	if x.what == 'r' && m.crew.Nodes[x.view%len(m.crew.Nodes)] == x.node {
		return api.ErrArg
	}
	if x.seq <= m.low || x.seq > m.low+8 {
		return api.ErrWindow
	}
	if old, is := m.last(x.what, x.node, x.seq); is && old.view > x.view {
		return api.ErrView
	} else if is && old.view == x.view && old.d != x.d {
		return api.ErrOther
	}
	m.said = append(m.said, x)
	if x.what != 'c' && m.prepared(x.seq) {
		p, _ := m.last('o', 0, x.seq)
		m.p[x.seq] = api.Stand{Seq: x.seq, View: p.view, Digest: p.d}
	}
	return api.OK
}

func (m *model) vote(x told) api.Errno {
	if !slices.Contains(m.crew.Nodes, x.node) {
		return api.ErrCrew
	}
	return m.add(x)
}

func (m *model) raise(low int) api.Errno {
	if low < m.low || low > 1<<53-9 {
		return api.ErrRange
	}
	m.low = low
	m.said = slices.DeleteFunc(m.said, func(x told) bool { return x.seq <= low })
	for seq := range m.p {
		if seq <= low {
			delete(m.p, seq)
		}
	}
	return api.OK
}

func (m *model) ps() []api.Stand {
	var l []api.Stand
	for seq := m.low + 1; seq <= m.low+8; seq++ {
		if x, is := m.p[seq]; is {
			l = append(l, x)
		}
	}
	return l
}

// qs goes through all proposals of each number anew.
func (m *model) qs() []api.Stand {
	var all []api.Stand
	for seq := m.low + 1; seq <= m.low+8; seq++ {
		var l []api.Stand
		for _, x := range m.said {
			if x.what != 'o' || x.seq != seq {
				continue
			}
			at := slices.IndexFunc(l, func(y api.Stand) bool { return y.Digest == x.d })
			if at < 0 && len(l) == 4 {
				at = 0 // as l is in its order, that is the one that goes
			}
			if at >= 0 {
				l = slices.Delete(l, at, at+1)
			}
			l = append(l, api.Stand{Seq: seq, View: x.view, Digest: x.d})
			slices.SortFunc(l, func(a, b api.Stand) int {
				if a.View != b.View {
					return a.View - b.View
				}
				return bytes.Compare(a.Digest[:], b.Digest[:])
			})
		}
		all = append(all, l...)
	}
	return all
}

func (m *model) restore(p, q []api.Stand) {
	m.said = nil
	clear(m.p)
	for _, x := range p {
		m.p[x.Seq] = x
	}
	for _, x := range q {
		m.said = append(m.said, told{'o', 0, x.View, x.Seq, x.Digest})
	}
}

// alike holds slots against their model, in all that can be asked.
func (m *model) alike(t *testing.T, s *Slots) {
	t.Helper()
	if s.Low() != m.low {
		t.Fatalf("Low: %d, not %d", s.Low(), m.low)
	}
	for seq := m.low - 1; seq <= m.low+9; seq++ {
		p, is := m.last('o', 0, seq)
		x, ok := s.At(seq)
		if ok != is || is && x != (api.Stand{Seq: seq, View: p.view, Digest: p.d}) || !is && x != (api.Stand{}) {
			t.Fatalf("At(%d): %v, %v, not %v, %v", seq, x, ok, p, is)
		}
		if s.Prepared(seq) != m.prepared(seq) || s.Committed(seq) != m.committed(seq) {
			t.Fatalf("%d: %v, %v, not %v, %v", seq, s.Prepared(seq), s.Committed(seq), m.prepared(seq), m.committed(seq))
		}
	}
	if p := s.P(); !slices.Equal(p, m.ps()) {
		t.Fatalf("P: %v, not %v", p, m.ps())
	}
	if q := s.Q(); !slices.Equal(q, m.qs()) {
		t.Fatalf("Q: %v, not %v", q, m.qs())
	}
}

// anyOf is one of a list.
func anyOf[T any](r *rand.Rand, l []T) T {
	return l[r.Intn(len(l))]
}

// play does the same at random with slots and with their model; views rise slowly, as in a replica, but for some.
type play struct {
	r    *rand.Rand
	s    *Slots
	m    *model
	view int
}

func (p *play) any(what byte, node int) told {
	if p.r.Intn(30) == 0 {
		p.view++
	}
	x := told{what, node, p.view, p.m.low + 1 + p.r.Intn(3), digest(byte(p.view % 2))}
	switch p.r.Intn(12) {
	case 0:
		x.seq = p.m.low + p.r.Intn(11) - 1
	case 1:
		x.view = anyOf(p.r, []int{0, 1, 2, p.view - 1, p.view + 1, -1})
	case 2:
		x.d = digest(byte(p.r.Intn(7)))
	}
	return x
}

func (p *play) step(t *testing.T) {
	t.Helper()
	var got, want api.Errno
	node := anyOf(p.r, p.m.crew.Nodes)
	if p.r.Intn(40) == 0 {
		node = p.r.Intn(31) - 1
	}
	switch p.r.Intn(16) {
	case 0, 1, 2, 3, 4:
		x := p.any('o', 0)
		got, want = p.s.Propose(x.view, x.seq, x.d), p.m.add(x)
	case 5, 6, 7, 8, 9:
		x := p.any('r', node)
		got, want = p.s.Prepare(x.node, x.view, x.seq, x.d), p.m.vote(x)
	case 10, 11, 12, 13, 14:
		x := p.any('c', node)
		got, want = p.s.Commit(x.node, x.view, x.seq, x.d), p.m.vote(x)
	case 15:
		switch p.r.Intn(9) {
		case 0:
			low := p.m.low + p.r.Intn(5) - 1
			got, want = p.s.Raise(low), p.m.raise(low)
		case 1:
			ps, qs := p.m.ps(), p.m.qs()
			got = p.s.Restore(ps, qs)
			p.m.restore(ps, qs)
		}
	}
	if got != want {
		t.Fatalf("%d, not %d", got, want)
	}
}

func TestAsTheModel(t *testing.T) {
	for i, c := range crews() {
		for seed := range int64(20) {
			p := play{r: rand.New(rand.NewSource(seed)), s: made(t, c, 3*i), m: newModel(c, 3*i)}
			for range 600 {
				p.step(t)
				p.m.alike(t, p.s)
			}
		}
	}
}
