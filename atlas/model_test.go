package atlas

import (
	"math/rand"
	"slices"
	"testing"

	"bastide/api"
	"bastide/ink"
)

// A model reads the chapter's words again: it has the first crews, and of each wish that was done the answer, and finds in these what is asked.
type model struct {
	faults int
	first  [][]int
	done   []api.Wish
	told   []api.Answer
}

// mayBe tells by the words of chapters 11 and 17 whether a wish is one for it.
func (m *model) mayBe(w api.Wish) bool {
	in := func(n, a, b int) bool { return a <= n && n <= b }
	if !in(w.Client, 31, 34) || !in(w.Stamp, 1, 9007199254740991) || w.Group != 0 || w.Epoch != 0 || !in(w.Block, 1, 2) || len(w.Data)+len(w.Next) > 0 {
		return false
	}
	if w.Kind == 3 {
		return w.Old == 0 && w.New == 0
	}
	return w.Kind == 4 && in(w.Old, 1, 28) && in(w.New, 1, 28) && w.Old != w.New
}

// swaps are the replacements of a chunk, in order.
func (m *model) swaps(chunk int) []api.Wish {
	var l []api.Wish
	for i, w := range m.done {
		if w.Kind == 4 && w.Block == chunk && m.told[i].Err == 0 {
			l = append(l, w)
		}
	}
	return l
}

// crews are a chunk's nodes, by epochs.
func (m *model) crews(chunk int) [][]int {
	if chunk > len(m.first) {
		return nil
	}
	l := [][]int{m.first[chunk-1]}
	for _, w := range m.swaps(chunk) {
		nodes := slices.Clone(l[len(l)-1])
		nodes[slices.Index(nodes, w.Old)] = w.New
		slices.Sort(nodes)
		l = append(l, nodes)
	}
	return l
}

func (m *model) used(node int) bool {
	all := slices.Concat(m.first...)
	for _, w := range slices.Concat(m.swaps(1), m.swaps(2)) {
		all = append(all, w.New)
	}
	return node < 3*m.faults+2 || slices.Contains(all, node)
}

// last is a client's last wish, by its place among all; -1, if there is none.
func (m *model) last(client int) int {
	for i := len(m.done) - 1; i >= 0; i-- {
		if m.done[i].Client == client {
			return i
		}
	}
	return -1
}

func (m *model) heard(w api.Wish) (api.Answer, bool) {
	if !m.mayBe(w) {
		return api.Answer{}, false
	}
	i := m.last(w.Client)
	if i < 0 || w.Stamp > m.done[i].Stamp {
		return api.Answer{}, false
	}
	if w.Stamp == m.done[i].Stamp {
		return m.told[i], true
	}
	return api.Answer{Err: 172}, true
}

func (m *model) do(w api.Wish) (api.Answer, api.Errno) {
	if !m.mayBe(w) {
		return api.Answer{}, 2
	}
	if x, ok := m.heard(w); ok {
		return x, 0
	}
	x := m.answer(w)
	m.done, m.told = append(m.done, w), append(m.told, x)
	return x, 0
}

func (m *model) answer(w api.Wish) api.Answer {
	all := m.crews(w.Block)
	if len(all) == 0 || w.Kind == 4 && w.Client != 34 {
		return api.Answer{Err: 180}
	}
	epoch, nodes := len(all)-1, all[len(all)-1]
	switch {
	case w.Kind == 3:
		return api.Answer{Epoch: epoch, Nodes: nodes}
	case !slices.Contains(nodes, w.Old) || m.used(w.New):
		return api.Answer{Err: 180, Epoch: epoch}
	case epoch == 21:
		return api.Answer{Err: 5}
	}
	return api.Answer{Epoch: epoch + 1}
}

func (m *model) leaves() [][]byte {
	var l [][]byte
	for chunk := 1; chunk <= 2; chunk++ {
		if chunk > len(m.first) {
			l = append(l, nums(0))
			continue
		}
		leaf := append([]int{1 + len(m.swaps(chunk)), m.faults}, m.first[chunk-1]...)
		for _, w := range m.swaps(chunk) {
			leaf = append(leaf, w.Old, w.New)
		}
		l = append(l, nums(leaf...))
	}
	for name := 31; name <= 34; name++ {
		if i := m.last(name); i < 0 {
			l = append(l, told(0, 0, 0))
		} else {
			l = append(l, told(m.done[i].Stamp, m.told[i].Err, m.told[i].Epoch, m.told[i].Nodes...))
		}
	}
	return l
}

// spoil makes something of a wish another.
func spoil(r *rand.Rand, w *api.Wish) {
	n := []int{-1, 0, 1, 2, 3, 4, 5, 28, 29, 30, 31, 34, 35, 1 << 53}[r.Intn(14)]
	switch r.Intn(10) {
	case 0:
		w.Kind = n
	case 1:
		w.Client = n
	case 2:
		w.Stamp = n
	case 3:
		w.Group = n
	case 4:
		w.Epoch = n
	case 5:
		w.Block = n
	case 6:
		w.Data = make([]byte, r.Intn(3))
	case 7:
		w.Old = n
	case 8:
		w.New = n
	case 9:
		w.Next = []int{n}[r.Intn(2):]
	}
}

// fitting lets a replacement ask for one of the crew mostly, as those at random seldom do.
func fitting(r *rand.Rand, m *model, w *api.Wish) {
	all := m.crews(w.Block)
	if w.Kind != api.WishReplace || len(all) == 0 || r.Intn(3) == 0 {
		return
	}
	nodes := all[len(all)-1]
	if old := nodes[r.Intn(len(nodes))]; old != w.New {
		w.Old = old
	}
}

func TestAsTheModel(t *testing.T) {
	got := map[api.Errno]int{}
	for seed := range int64(75) {
		r := rand.New(rand.NewSource(seed))
		crews := firsts()[seed%int64(len(firsts()))]
		a, e := New(ink.New(), crews)
		if e != api.OK {
			t.Fatalf("New(%v): %d", crews, e)
		}
		m := &model{faults: crews[0].Faults}
		for _, c := range crews {
			m.first = append(m.first, c.Nodes)
		}
		many := 300
		if m.faults == 0 { // such alone have nodes enough for all epochs
			many = 900
		}
		for i, w := range wishes(r, many) {
			fitting(r, m, &w)
			if r.Intn(15) == 0 {
				spoil(r, &w)
			}
			x, ok := a.Heard(w)
			if y, is := m.heard(w); ok != is || !alike(x, y) {
				t.Fatalf("seed %d, %d: Heard: %+v, %v, not %+v, %v", seed, i, x, ok, y, is)
			}
			x, e := a.Do(w)
			y, f := m.do(w)
			if e != f || !alike(x, y) {
				t.Fatalf("seed %d, %d: Do(%+v): %+v, %d, not %+v, %d", seed, i, w, x, e, y, f)
			}
			got[max(e, x.Err)]++
			has(t, "done", a, m.leaves())
			for chunk := 1; chunk <= 2; chunk++ {
				var want []api.Crew
				for _, nodes := range m.crews(chunk) {
					want = append(want, crewOf(nodes...))
				}
				hasCrews(t, "done", a, chunk, want...)
			}
		}
	}
	for _, e := range []api.Errno{api.OK, api.ErrArg, api.ErrLimit, api.ErrMap, api.ErrStamp} {
		if got[e] < 10 {
			t.Errorf("%d was told %d times only", e, got[e])
		}
	}
}
