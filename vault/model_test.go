package vault

import (
	"math/rand"
	"slices"
	"testing"

	"bastide/api"
)

// A model reads the chapter's words again: it has all wishes that were done, in order, and finds in these what is asked.
type model struct {
	group, epoch int
	done         []api.Wish
	seal         []int
}

// mayBe tells by the words of chapters 11 and 16 whether a wish is one for it.
func (m *model) mayBe(w api.Wish) bool {
	in := func(n, a, b int) bool { return a <= n && n <= b }
	if w.Group != m.group || !in(w.Epoch, 0, 1048576) || w.Old != 0 || w.New != 0 {
		return false
	}
	asked := in(w.Client, 31, 34) && in(w.Stamp, 1, 9007199254740991) && in(w.Block, 0, 7) && len(w.Next) == 0
	switch w.Kind {
	case 1:
		return asked && len(w.Data) == 0
	case 2:
		return asked && len(w.Data) == 16
	case 5:
		ok := w.Client == 0 && w.Stamp == 0 && w.Block == 0 && len(w.Data) == 0
		for i, n := range w.Next {
			ok = ok && in(n, 1, 28) && (i == 0 || n > w.Next[i-1])
		}
		return ok && slices.Contains([]int{1, 4, 7}, len(w.Next))
	}
	return false
}

// wrote is what a block has behind the first so many wishes.
func (m *model) wrote(block, many int) []byte {
	for i := many - 1; i >= 0; i-- {
		if w := m.done[i]; w.Kind == 2 && w.Block == block {
			return w.Data
		}
	}
	return make([]byte, 16)
}

// last is a client's last stamp, and the data of that wish.
func (m *model) last(client int) (int, []byte) {
	for i := len(m.done) - 1; i >= 0; i-- {
		if w := m.done[i]; w.Client == client && w.Kind == 1 {
			return w.Stamp, m.wrote(w.Block, i)
		} else if w.Client == client {
			return w.Stamp, nil
		}
	}
	return 0, nil
}

func (m *model) do(w api.Wish) (api.Answer, api.Errno) {
	if !m.mayBe(w) {
		return api.Answer{}, api.ErrArg
	}
	if a, ok := m.heard(w); ok {
		return a, api.OK
	}
	if w.Epoch != m.epoch {
		return api.Answer{Err: 171, Epoch: m.epoch}, api.OK
	}
	if m.seal != nil {
		return api.Answer{Err: 171, Epoch: m.epoch + 1}, api.OK
	}
	if w.Kind == 5 {
		m.seal = slices.Clone(w.Next)
		return api.Answer{}, api.OK
	}
	m.done = append(m.done, w)
	_, data := m.last(w.Client)
	return api.Answer{Data: data}, api.OK
}

func (m *model) heard(w api.Wish) (api.Answer, bool) {
	if !m.mayBe(w) || w.Kind == 5 {
		return api.Answer{}, false
	}
	stamp, data := m.last(w.Client)
	if w.Stamp < stamp {
		return api.Answer{Err: 172}, true
	}
	if w.Stamp == stamp {
		return api.Answer{Data: data}, true
	}
	return api.Answer{}, false
}

func (m *model) turn() api.Errno {
	if m.seal == nil {
		return api.ErrEpoch
	}
	m.seal = nil
	m.epoch++
	return api.OK
}

func (m *model) leaves() [][]byte {
	var l [][]byte
	for i := range 8 {
		l = append(l, m.wrote(i, len(m.done)))
	}
	for name := 31; name <= 34; name++ {
		stamp, data := m.last(name)
		l = append(l, told(stamp, data...))
	}
	return append(l, last(m.group, m.epoch, m.seal...))
}

// spoil makes something of a wish another.
func spoil(r *rand.Rand, w *api.Wish) {
	n := []int{-1, 0, 1, 2, 3, 7, 8, 30, 31, 34, 35, 1 << 20, 1<<20 + 1, 1 << 53}[r.Intn(14)]
	switch r.Intn(10) {
	case 0:
		w.Kind = n
	case 1:
		w.Client = n
	case 2:
		w.Stamp = n
	case 3:
		w.Group = n
	case 4:
		w.Epoch = n
	case 5:
		w.Block = n
	case 6:
		w.Data = make([]byte, r.Intn(18))
	case 7:
		w.Old = n
	case 8:
		w.New = n
	case 9:
		w.Next = []int{1, 2, 3, n}[r.Intn(4):]
	}
}

func TestAsTheModel(t *testing.T) {
	got := map[api.Errno]int{}
	for seed := range int64(60) {
		r := rand.New(rand.NewSource(seed))
		v, m := made(t), &model{group: 1}
		for i, w := range wishes(r, 400) {
			if r.Intn(15) == 0 {
				spoil(r, &w)
			}
			if w.Kind == api.WishNone {
				is(t, "Turn", v.Turn(), m.turn())
				continue
			}
			a, ok := v.Heard(w)
			if b, is := m.heard(w); ok != is || !alike(a, b) {
				t.Fatalf("seed %d, %d: Heard: %+v, %v, not %+v, %v", seed, i, a, ok, b, is)
			}
			a, e := v.Do(w)
			b, f := m.do(w)
			if e != f || !alike(a, b) {
				t.Fatalf("seed %d, %d: Do(%+v): %+v, %d, not %+v, %d", seed, i, w, a, e, b, f)
			}
			got[max(e, a.Err)]++
			has(t, "done", v, m.leaves())
			if v.Epoch() != m.epoch || !slices.Equal(v.Sealed(), m.seal) {
				t.Fatalf("seed %d, %d: %d, %v", seed, i, v.Epoch(), v.Sealed())
			}
		}
	}
	for _, e := range []api.Errno{api.OK, api.ErrArg, api.ErrEpoch, api.ErrStamp} {
		if got[e] < 300 {
			t.Errorf("%d was told %d times only", e, got[e])
		}
	}
}
