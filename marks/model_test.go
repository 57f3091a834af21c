package marks

import (
	"bytes"
	"math/rand"
	"slices"
	"testing"

	"bastide/api"
)

// A model reads the chapter's words again: one list of all that is told, in which it finds what is asked, node by node.
type model struct {
	crew api.Crew
	low  api.Mark
	told []telling
}

type telling struct {
	node int
	x    api.Mark
}

func (m *model) vote(node int, x api.Mark) api.Errno {
	if !slices.Contains(m.crew.Nodes, node) {
		return api.ErrCrew
	}
	if x.Seq <= m.low.Seq || x.Seq > 9007199254740991 {
		return api.ErrRange
	}
	for _, y := range m.told {
		if y.node == node && y.x.Seq == x.Seq {
			if y.x.Digest != x.Digest {
				return api.ErrOther
			}
			return api.OK
		}
	}
	m.told = append(m.told, telling{node, x})
	if l := m.of(node); len(l) == 5 {
		m.told = slices.DeleteFunc(m.told, func(y telling) bool { return y == telling{node, l[0]} })
	}
	return api.OK
}

func (m *model) of(node int) []api.Mark {
	var l []api.Mark
	for _, y := range m.told {
		if y.node == node {
			l = append(l, y.x)
		}
	}
	slices.SortFunc(l, func(a, b api.Mark) int { return a.Seq - b.Seq })
	return l
}

// by is the greatest mark that so many nodes tell.
func (m *model) by(many int) (api.Mark, bool) {
	best, ok := api.Mark{}, false
	for _, y := range m.told {
		n := 0
		for _, z := range m.told {
			if z.x == y.x {
				n++
			}
		}
		if n < many {
			continue
		}
		if !ok || y.x.Seq > best.Seq || y.x.Seq == best.Seq && bytes.Compare(y.x.Digest[:], best.Digest[:]) < 0 {
			best, ok = y.x, true
		}
	}
	return best, ok
}

func (m *model) raise(x api.Mark) api.Errno {
	if x.Seq < m.low.Seq || x.Seq > 9007199254740991 {
		return api.ErrRange
	}
	m.low = x
	m.told = slices.DeleteFunc(m.told, func(y telling) bool { return y.x.Seq <= x.Seq })
	return api.OK
}

// alike holds marks against their model, in all that can be asked.
func (m *model) alike(t *testing.T, s *Marks) {
	t.Helper()
	if s.Low() != m.low {
		t.Fatalf("Low: %v, not %v", s.Low(), m.low)
	}
	for node := -1; node <= 29; node++ {
		if l := s.Of(node); !slices.Equal(l, m.of(node)) {
			t.Fatalf("Of(%d): %v, not %v", node, l, m.of(node))
		}
	}
	x, ok := s.Stable()
	if want, is := m.by(2*m.crew.Faults + 1); x != want || ok != is {
		t.Fatalf("Stable: %v, %v, not %v, %v", x, ok, want, is)
	}
	x, ok = s.Known()
	if want, is := m.by(m.crew.Faults + 1); x != want || ok != is {
		t.Fatalf("Known: %v, %v, not %v, %v", x, ok, want, is)
	}
}

// step does the same at random with marks and with their model; numbers rise slowly.
func step(t *testing.T, r *rand.Rand, s *Marks, m *model) {
	t.Helper()
	node := m.crew.Nodes[r.Intn(len(m.crew.Nodes))]
	x := mark(m.low.Seq+1+r.Intn(6), byte(r.Intn(6)/4))
	switch r.Intn(20) {
	case 0:
		node = r.Intn(31) - 1
	case 1:
		x.Seq = m.low.Seq - 2 + r.Intn(13)
	case 2:
		x.Digest[r.Intn(32)] ^= 1 << r.Intn(8)
	}
	var got, want api.Errno
	if r.Intn(25) == 0 {
		x.Seq = m.low.Seq - 1 + r.Intn(6)
		got, want = s.Raise(x), m.raise(x)
	} else {
		got, want = s.Vote(node, x), m.vote(node, x)
	}
	if got != want {
		t.Fatalf("%d, not %d", got, want)
	}
}

func TestAsTheModel(t *testing.T) {
	for i, c := range crews() {
		for seed := range int64(30) {
			r := rand.New(rand.NewSource(seed))
			low := mark([]int{0, 3, api.MaxNumber - 60}[seed%3], byte(i))
			s, m := made(t, c, low), &model{crew: c, low: low}
			for range 600 {
				step(t, r, s, m)
				m.alike(t, s)
			}
		}
	}
}
