package slots

import (
	"math"
	"math/rand"
	"slices"
	"testing"

	"bastide/api"
)

var (
	a = digest(1)
	b = digest(2)
)

// noViews are numbers that no view has.
var noViews = []int{-1, -2, math.MinInt, -1 << 32, api.MaxView + 1, api.MaxView + 2, 1 << 32, math.MaxInt}

// digest is one by its last byte, so that all of it must be looked at; the 0-th is the zero one.
func digest(n byte) api.Digest {
	return api.Digest{31: n}
}

func stand(seq, view int, d api.Digest) api.Stand {
	return api.Stand{Seq: seq, View: view, Digest: d}
}

func four() api.Crew {
	return api.Crew{Faults: 1, Nodes: []int{1, 2, 3, 4}}
}

func crews() []api.Crew {
	return []api.Crew{
		{Nodes: []int{1}}, {Nodes: []int{28}}, four(), {Faults: 1, Nodes: []int{2, 9, 21, 28}},
		{Faults: 2, Nodes: []int{1, 2, 3, 4, 5, 6, 7}}, {Faults: 2, Nodes: []int{3, 4, 10, 15, 20, 27, 28}},
	}
}

// others are a crew's nodes but the leader of a view, the first after it first.
func others(c api.Crew, view int) []int {
	at := view % len(c.Nodes)
	return slices.Concat(c.Nodes[at+1:], c.Nodes[:at])
}

func leader(c api.Crew, view int) int {
	return c.Nodes[view%len(c.Nodes)]
}

// made has what may be made.
func made(t *testing.T, c api.Crew, low int) *Slots {
	t.Helper()
	s, e := New(c, c.Nodes[0], low)
	if e != api.OK || s == nil {
		t.Fatalf("New(%v, %d): %d", c, low, e)
	}
	return s
}

func is(t *testing.T, what string, got, want api.Errno) {
	t.Helper()
	if got != want {
		t.Errorf("%s: %d, not %d", what, got, want)
	}
}

// propose, prepare and commit do what may be done; the latter of each node that is named.
func propose(t *testing.T, s *Slots, view, seq int, d api.Digest) {
	t.Helper()
	is(t, "Propose", s.Propose(view, seq, d), api.OK)
}

func prepare(t *testing.T, s *Slots, view, seq int, d api.Digest, nodes ...int) {
	t.Helper()
	for _, n := range nodes {
		is(t, "Prepare", s.Prepare(n, view, seq, d), api.OK)
	}
}

func commit(t *testing.T, s *Slots, view, seq int, d api.Digest, nodes ...int) {
	t.Helper()
	for _, n := range nodes {
		is(t, "Commit", s.Commit(n, view, seq, d), api.OK)
	}
}

// restore does what may be done.
func restore(t *testing.T, s *Slots, p, q []api.Stand) {
	t.Helper()
	is(t, "Restore", s.Restore(p, q), api.OK)
}

func hasP(t *testing.T, what string, s *Slots, want ...api.Stand) {
	t.Helper()
	if p := s.P(); !slices.Equal(p, want) {
		t.Errorf("%s: P: %v, not %v", what, p, want)
	}
}

func hasQ(t *testing.T, what string, s *Slots, want ...api.Stand) {
	t.Helper()
	if q := s.Q(); !slices.Equal(q, want) {
		t.Errorf("%s: Q: %v, not %v", what, q, want)
	}
}

// stands looks at what is told of a number.
func stands(t *testing.T, what string, s *Slots, want api.Stand, prepared, committed bool) {
	t.Helper()
	if x, ok := s.At(want.Seq); !ok || x != want {
		t.Errorf("%s: At(%d): %v, %v, not %v", what, want.Seq, x, ok, want)
	}
	if s.Prepared(want.Seq) != prepared || s.Committed(want.Seq) != committed {
		t.Errorf("%s: at %d %v, %v, not %v, %v", what, want.Seq, s.Prepared(want.Seq), s.Committed(want.Seq), prepared, committed)
	}
}

// nothing looks at numbers of which nothing is told.
func nothing(t *testing.T, what string, s *Slots, numbers ...int) {
	t.Helper()
	for _, seq := range numbers {
		if x, ok := s.At(seq); ok || x != (api.Stand{}) {
			t.Errorf("%s: At(%d): %v, %v", what, seq, x, ok)
		}
		if s.Prepared(seq) || s.Committed(seq) {
			t.Errorf("%s: at %d %v, %v", what, seq, s.Prepared(seq), s.Committed(seq))
		}
	}
}

// noNumbers are numbers that are not in the window above a low mark.
func noNumbers(low int) []int {
	return []int{low, low + 9, low - 1, low + 10, -1, 0, low + 1<<32, low + 1 - 1<<32, math.MinInt, math.MaxInt, math.MinInt + low, api.MaxNumber + 1}
}

// filled has something at each number above 10: proposed in the view 1, prepared at odd ones, committed at the last one; the node 4 says something that nobody else says.
func filled(t *testing.T) *Slots {
	t.Helper()
	s := made(t, four(), 10)
	for seq := 11; seq <= 18; seq++ {
		propose(t, s, 0, seq, digest(100))
		propose(t, s, 1, seq, digest(byte(seq)))
		prepare(t, s, 0, seq, digest(99), 4)
		commit(t, s, 0, seq, digest(99), 4)
		if seq%2 == 1 {
			prepare(t, s, 1, seq, digest(byte(seq)), 1, 3)
		}
	}
	prepare(t, s, 1, 18, digest(18), 1, 3)
	commit(t, s, 1, 18, digest(18), 1, 2, 3)
	return s
}

// seen is all that slots tell of a window.
func seen(s *Slots) []api.Stand {
	l := slices.Concat(s.P(), []api.Stand{{Seq: -1}}, s.Q(), []api.Stand{{Seq: s.Low()}})
	for seq := s.Low() - 1; seq <= s.Low()+9; seq++ {
		x, ok := s.At(seq)
		l = append(l, x)
		for _, yes := range []bool{ok, s.Prepared(seq), s.Committed(seq)} {
			if yes {
				l = append(l, api.Stand{Seq: -2})
			} else {
				l = append(l, api.Stand{Seq: -3})
			}
		}
	}
	return l
}

// P14.1

func TestNew(t *testing.T) {
	for _, c := range crews() {
		for _, self := range c.Nodes {
			for _, low := range []int{0, 1, 4, 1 << 32, api.MaxNumber - 9, api.MaxNumber - 8} {
				s, e := New(c, self, low)
				if e != api.OK || s == nil || s.Low() != low {
					t.Fatalf("New(%v, %d, %d): %d", c, self, low, e)
				}
				hasP(t, "new", s)
				hasQ(t, "new", s)
				for i := -1; i <= 10; i++ {
					nothing(t, "new", s, low+i)
				}
				nothing(t, "new", s, noNumbers(low)...)
			}
		}
	}
}

func TestNewRefuses(t *testing.T) {
	for i, c := range []struct {
		crew      api.Crew
		self, low int
		want      api.Errno
	}{
		{api.Crew{}, 0, 0, api.ErrCrew}, {api.Crew{Faults: 1, Nodes: []int{1, 2, 3}}, 1, 0, api.ErrCrew}, {api.Crew{Faults: 1, Nodes: []int{2, 1, 3, 4}}, 1, 0, api.ErrCrew},
		{api.Crew{Faults: 3, Nodes: []int{1, 2, 3, 4, 5, 6, 7, 8, 9, 10}}, 1, 0, api.ErrCrew}, {api.Crew{Nodes: []int{29}}, 29, 0, api.ErrCrew}, {api.Crew{Nodes: []int{1, 2, 3, 4}}, 1, 0, api.ErrCrew},
		{four(), 5, 0, api.ErrCrew}, {four(), 0, 0, api.ErrCrew}, {four(), -1, 0, api.ErrCrew}, {four(), 1<<32 + 1, 0, api.ErrCrew},
		{four(), 1, -1, api.ErrRange}, {four(), 1, math.MinInt, api.ErrRange}, {four(), 1, api.MaxNumber - 7, api.ErrRange}, {four(), 1, api.MaxNumber, api.ErrRange}, {four(), 1, math.MaxInt, api.ErrRange},
		{four(), 5, -1, api.ErrCrew}, {api.Crew{}, 1, math.MaxInt, api.ErrCrew},
	} {
		if s, e := New(c.crew, c.self, c.low); s != nil || e != c.want {
			t.Errorf("row %d: %v, %d", i, s, e)
		}
	}
}

func TestNone(t *testing.T) {
	var none *Slots
	for what, s := range map[string]*Slots{"nil": none, "one that New did not make": {}, "a new zero one": new(Slots)} {
		for _, seq := range []int{0, 1, 8, 9, -1, math.MaxInt} {
			for _, view := range []int{0, -1, api.MaxView} {
				is(t, what, s.Propose(view, seq, a), api.ErrNil)
				for _, node := range []int{0, 1, 4, 29} {
					is(t, what, s.Prepare(node, view, seq, a), api.ErrNil)
					is(t, what, s.Commit(node, view, seq, a), api.ErrNil)
				}
			}
			is(t, what, s.Raise(seq), api.ErrNil)
			nothing(t, what, s, seq)
		}
		is(t, what, s.Restore(nil, nil), api.ErrNil)
		is(t, what, s.Restore([]api.Stand{stand(1, 0, a)}, []api.Stand{stand(-1, 0, a)}), api.ErrNil)
		hasP(t, what, s)
		hasQ(t, what, s)
		if s.Low() != 0 {
			t.Errorf("%s: Low: %d", what, s.Low())
		}
	}
}

func TestRaise(t *testing.T) {
	for low := 10; low <= 20; low++ {
		s := filled(t)
		p, q := s.P(), s.Q()
		var all []api.Stand
		for seq := 11; seq <= 18; seq++ {
			x, _ := s.At(seq)
			all = append(all, x)
		}
		is(t, "Raise", s.Raise(low), api.OK)
		if s.Low() != low {
			t.Errorf("Raise(%d): Low %d", low, s.Low())
		}
		below := func(x api.Stand) bool { return x.Seq <= low }
		hasP(t, "raised", s, slices.DeleteFunc(p, below)...)
		hasQ(t, "raised", s, slices.DeleteFunc(q, below)...)
		for _, x := range all {
			if below(x) {
				nothing(t, "raised", s, x.Seq)
			} else {
				stands(t, "raised", s, x, x.Seq%2 == 1 || x.Seq == 18, x.Seq == 18)
			}
		}
		for seq := max(19, low+1); seq <= low+8; seq++ {
			nothing(t, "raised", s, seq)
			propose(t, s, 0, seq, a)
			prepare(t, s, 0, seq, a, 2, 3)
			commit(t, s, 0, seq, a, 1, 2, 3)
			stands(t, "in the window now", s, stand(seq, 0, a), true, true)
		}
		for _, seq := range noNumbers(low) {
			is(t, "Propose", s.Propose(0, seq, a), api.ErrWindow)
		}
	}
}

func TestRaiseForgetsWhoSaidWhat(t *testing.T) {
	s := filled(t)
	is(t, "Raise", s.Raise(18), api.OK)
	is(t, "Raise", s.Raise(api.MaxNumber-8), api.OK)
	last := api.MaxNumber
	propose(t, s, 0, last, a)
	prepare(t, s, 0, last, a, 2, 4)
	commit(t, s, 0, last, a, 1, 2, 4)
	stands(t, "the last number of all", s, stand(last, 0, a), true, true)
	is(t, "Propose", s.Propose(0, last+1, a), api.ErrWindow)
}

func TestRaiseRefuses(t *testing.T) {
	s := filled(t)
	was := seen(s)
	for _, low := range []int{9, 0, -1, math.MinInt, 10 - 1<<32, api.MaxNumber - 7, api.MaxNumber, math.MaxInt} {
		is(t, "Raise", s.Raise(low), api.ErrRange)
		if !slices.Equal(seen(s), was) {
			t.Errorf("Raise(%d) changed something", low)
		}
	}
	is(t, "Raise", s.Raise(10), api.OK)
	if !slices.Equal(seen(s), was) {
		t.Error("raised to where it is: something changed")
	}
}

// P14.2

func TestPropose(t *testing.T) {
	for _, c := range crews() {
		for _, view := range []int{0, 1, 2, 3, 7, api.MaxView - 1, api.MaxView} {
			for _, d := range []api.Digest{{}, a, {0: 255}} {
				s := made(t, c, 4)
				var q []api.Stand
				for seq := 5; seq <= 12; seq++ {
					propose(t, s, view, seq, d)
					q = append(q, stand(seq, view, d))
					stands(t, "proposed", s, stand(seq, view, d), c.Faults == 0, false)
					hasQ(t, "proposed", s, q...)
					propose(t, s, view, seq, d)
					hasQ(t, "proposed twice", s, q...)
				}
				nothing(t, "beside them", s, noNumbers(4)...)
			}
		}
	}
}

func TestProposeRefuses(t *testing.T) {
	for _, low := range []int{0, 10, api.MaxNumber - 8} {
		s := made(t, four(), low)
		seq := low + 3
		propose(t, s, 5, seq, a)
		was := seen(s)
		refuses := func(view, seq int, d api.Digest, want api.Errno) {
			t.Helper()
			is(t, "Propose", s.Propose(view, seq, d), want)
			if !slices.Equal(seen(s), was) {
				t.Errorf("Propose(%d, %d) changed something", view, seq)
			}
		}
		for _, view := range noViews {
			for _, n := range append(noNumbers(low), seq, low+1) {
				refuses(view, n, a, api.ErrView)
			}
		}
		for _, n := range noNumbers(low) {
			refuses(0, n, a, api.ErrWindow)
			refuses(api.MaxView, n, b, api.ErrWindow)
		}
		for view := range 5 {
			refuses(view, seq, a, api.ErrView)
			refuses(view, seq, b, api.ErrView)
		}
		refuses(5, seq, b, api.ErrOther)
		refuses(5, seq, api.Digest{}, api.ErrOther)
		for i := range 32 {
			near := a
			near[i] ^= 0x80
			refuses(5, seq, near, api.ErrOther)
		}
		propose(t, s, 0, low+4, b)
	}
}

// TestZeroDigestIsOne: nothing was said is another thing than a zero digest in the view 0.
func TestZeroDigestIsOne(t *testing.T) {
	zero := api.Digest{}
	s := made(t, four(), 0)
	propose(t, s, 0, 1, zero)
	stands(t, "one that nobody prepares", s, stand(1, 0, zero), false, false)
	is(t, "Propose", s.Propose(0, 1, a), api.ErrOther)
	hasQ(t, "proposed", s, stand(1, 0, zero))
	prepare(t, s, 0, 1, zero, 2)
	is(t, "Prepare", s.Prepare(2, 0, 1, a), api.ErrOther)
	prepare(t, s, 0, 1, zero, 3)
	hasP(t, "prepared", s, stand(1, 0, zero))
	commit(t, s, 0, 1, zero, 2)
	is(t, "Commit", s.Commit(2, 0, 1, a), api.ErrOther)
	commit(t, s, 0, 1, zero, 3, 4)
	stands(t, "committed", s, stand(1, 0, zero), true, true)
}

// TestFourOfQ goes through the views with ever other digests, and with old ones.
func TestFourOfQ(t *testing.T) {
	s := made(t, four(), 0)
	var want []api.Stand
	for view, n := range []byte{9, 8, 7, 6, 5, 4} {
		propose(t, s, view, 3, digest(n))
		want = append(want, stand(3, view, digest(n)))
		if len(want) > 4 {
			want = want[1:]
		}
		hasQ(t, "ever others", s, want...)
	}
	propose(t, s, 6, 3, digest(7))
	hasQ(t, "the oldest one again", s, stand(3, 3, digest(6)), stand(3, 4, digest(5)), stand(3, 5, digest(4)), stand(3, 6, digest(7)))
	propose(t, s, 9, 3, digest(5))
	hasQ(t, "one amid them again", s, stand(3, 3, digest(6)), stand(3, 5, digest(4)), stand(3, 6, digest(7)), stand(3, 9, digest(5)))
	propose(t, s, 10, 3, digest(5))
	hasQ(t, "the last one again", s, stand(3, 3, digest(6)), stand(3, 5, digest(4)), stand(3, 6, digest(7)), stand(3, 10, digest(5)))
	propose(t, s, 11, 3, digest(9))
	hasQ(t, "one that was forgotten", s, stand(3, 5, digest(4)), stand(3, 6, digest(7)), stand(3, 10, digest(5)), stand(3, 11, digest(9)))
	propose(t, s, 0, 2, a)
	propose(t, s, 0, 4, a)
	if len(s.Q()) != 6 {
		t.Errorf("Q: %v", s.Q())
	}
}

// TestLeastDigestGoesFirst: of several of one view, which can only come of Restore.
func TestLeastDigestGoesFirst(t *testing.T) {
	great, low := api.Digest{0: 2}, api.Digest{0: 1, 31: 255}
	mid := api.Digest{0: 1, 15: 128}
	for i, c := range []struct {
		q    []api.Stand
		goes int
	}{
		{[]api.Stand{stand(3, 1, digest(7)), stand(3, 1, low), stand(3, 1, mid), stand(3, 1, great)}, 0},
		{[]api.Stand{stand(3, 1, low), stand(3, 1, great), stand(3, 2, digest(7)), stand(3, 2, mid)}, 0},
		{[]api.Stand{stand(3, 0, great), stand(3, 1, digest(7)), stand(3, 1, low), stand(3, 2, mid)}, 0},
	} {
		s := made(t, four(), 0)
		restore(t, s, nil, c.q)
		propose(t, s, 4, 3, a)
		left := slices.Delete(slices.Clone(c.q), c.goes, c.goes+1)
		hasQ(t, "one more", s, append(left, stand(3, 4, a))...)
		propose(t, s, 5, 3, left[2].Digest)
		hasQ(t, "one again", s, left[0], left[1], stand(3, 4, a), stand(3, 5, left[2].Digest))
		if t.Failed() {
			t.Fatalf("row %d", i)
		}
	}
}

// TestProposedWhenPreparedAlready: the prepares may come first.
func TestProposedWhenPreparedAlready(t *testing.T) {
	for _, c := range crews() {
		for _, view := range []int{0, 1, 5} {
			s := made(t, c, 0)
			prepare(t, s, view, 3, a, others(c, view)[:2*c.Faults]...)
			hasP(t, "not proposed yet", s)
			nothing(t, "not proposed yet", s, 3)
			propose(t, s, view, 3, a)
			stands(t, "proposed", s, stand(3, view, a), true, false)
			hasP(t, "proposed", s, stand(3, view, a))
		}
	}
}

// P14.3

func TestPrepare(t *testing.T) {
	for _, c := range crews() {
		for _, view := range []int{0, 1, 2, 6, 7, api.MaxView} {
			s := made(t, c, 0)
			propose(t, s, view, 3, a)
			for i, n := range others(c, view) {
				stands(t, "so far", s, stand(3, view, a), i >= 2*c.Faults, false)
				prepare(t, s, view, 3, a, n)
				if prepared := i+1 >= 2*c.Faults; prepared {
					hasP(t, "enough", s, stand(3, view, a))
				} else {
					hasP(t, "too few", s)
				}
				prepare(t, s, view, 3, a, n)
			}
			stands(t, "all others", s, stand(3, view, a), true, false)
			hasP(t, "all others", s, stand(3, view, a))
		}
	}
}

// TestPrepareOfOthersIsNone: in another view, of another digest, at another number, by the same node again.
func TestPrepareOfOthersIsNone(t *testing.T) {
	for what, do := range map[string]func(s *Slots){
		"a lesser view":       func(s *Slots) { prepare(t, s, 4, 3, a, 4) },
		"a greater view":      func(s *Slots) { prepare(t, s, 9, 3, a, 4) },
		"another digest":      func(s *Slots) { prepare(t, s, 5, 3, b, 4) },
		"another number":      func(s *Slots) { prepare(t, s, 5, 2, a, 4); prepare(t, s, 5, 4, a, 4) },
		"the same node again": func(s *Slots) { prepare(t, s, 5, 3, a, 3, 3) },
		"a commit":            func(s *Slots) { commit(t, s, 5, 3, a, 1, 2, 4) },
	} {
		s := made(t, four(), 0)
		propose(t, s, 5, 3, a)
		prepare(t, s, 5, 3, a, 3)
		do(s)
		stands(t, what, s, stand(3, 5, a), false, false)
		hasP(t, what, s)
		prepare(t, s, 5, 3, a, 1)
		stands(t, what, s, stand(3, 5, a), true, what == "a commit")
		hasP(t, what, s, stand(3, 5, a))
	}
}

func TestLaterPreparesCount(t *testing.T) {
	s := made(t, four(), 0)
	prepare(t, s, 0, 3, b, 2, 3, 4)
	prepare(t, s, 1, 3, a, 3, 4)
	propose(t, s, 0, 3, b)
	stands(t, "only one prepares it still", s, stand(3, 0, b), false, false)
	propose(t, s, 1, 3, a)
	stands(t, "two do", s, stand(3, 1, a), true, false)
	hasP(t, "two do", s, stand(3, 1, a))
}

// votesOf are Prepare and Commit.
func votesOf(s *Slots) map[string]func(node, view, seq int, d api.Digest) api.Errno {
	return map[string]func(node, view, seq int, d api.Digest) api.Errno{"Prepare": s.Prepare, "Commit": s.Commit}
}

func TestVotesRefuse(t *testing.T) {
	for _, low := range []int{0, 10, api.MaxNumber - 8} {
		s := made(t, four(), low)
		seq := low + 8
		propose(t, s, 5, seq, a)
		prepare(t, s, 5, seq, a, 3)
		commit(t, s, 5, seq, a, 3)
		was := seen(s)
		for what, vote := range votesOf(s) {
			refuses := func(node, view, seq int, d api.Digest, want api.Errno) {
				t.Helper()
				is(t, what, vote(node, view, seq, d), want)
				if !slices.Equal(seen(s), was) {
					t.Errorf("%s(%d, %d, %d) changed something", what, node, view, seq)
				}
			}
			for _, node := range []int{0, 5, 28, 29, -1, math.MinInt, 1<<32 + 3, math.MaxInt} {
				for _, view := range append(noViews, 0, 5) {
					refuses(node, view, seq, a, api.ErrCrew)
					refuses(node, view, low, a, api.ErrCrew)
				}
			}
			for _, view := range noViews {
				for node := 1; node <= 4; node++ {
					refuses(node, view, seq, a, api.ErrView)
					refuses(node, view, low+9, a, api.ErrView)
				}
			}
			for _, n := range noNumbers(low) {
				refuses(3, 0, n, a, api.ErrWindow)
				refuses(3, 5, n, b, api.ErrWindow)
			}
			refuses(3, 4, seq, a, api.ErrView)
			refuses(3, 0, seq, b, api.ErrView)
			refuses(3, 5, seq, b, api.ErrOther)
			refuses(3, 5, seq, api.Digest{}, api.ErrOther)
			is(t, what, vote(3, 5, seq, a), api.OK)
		}
	}
}

func TestRefusedVotesAreNone(t *testing.T) {
	s := made(t, four(), 0)
	propose(t, s, 5, 3, a)
	prepare(t, s, 5, 3, b, 3)
	commit(t, s, 5, 3, b, 3)
	prepare(t, s, 5, 3, a, 4)
	commit(t, s, 5, 3, a, 2, 4)
	for range 3 {
		is(t, "Prepare", s.Prepare(3, 5, 3, a), api.ErrOther)
		is(t, "Prepare", s.Prepare(2, 5, 3, a), api.ErrArg)
		is(t, "Prepare", s.Prepare(5, 5, 3, a), api.ErrCrew)
		is(t, "Commit", s.Commit(3, 5, 3, a), api.ErrOther)
		is(t, "Commit", s.Commit(5, 5, 3, a), api.ErrCrew)
	}
	stands(t, "one of two prepares", s, stand(3, 5, a), false, false)
	prepare(t, s, 5, 3, a, 1)
	stands(t, "two of three commit", s, stand(3, 5, a), true, false)
	commit(t, s, 5, 3, a, 1)
	stands(t, "three of three", s, stand(3, 5, a), true, true)
}

func TestLeadersDoNotPrepare(t *testing.T) {
	for _, c := range crews() {
		for _, view := range []int{0, 1, 2, 3, 4, 5, 6, 7, 13, api.MaxView} {
			s := made(t, c, 0)
			for _, n := range c.Nodes {
				want := api.OK
				if n == leader(c, view) {
					want = api.ErrArg
				}
				is(t, "Prepare", s.Prepare(n, view, 1, a), want)
				is(t, "Commit", s.Commit(n, view, 1, a), api.OK)
			}
			is(t, "Prepare", s.Prepare(leader(c, view), view, 9, a), api.ErrArg)
			is(t, "Commit", s.Commit(leader(c, view), view, 9, a), api.ErrWindow)
		}
	}
}

func TestCommit(t *testing.T) {
	for _, c := range crews() {
		for _, view := range []int{0, 1, 6, api.MaxView} {
			s := made(t, c, 0)
			propose(t, s, view, 3, a)
			prepare(t, s, view, 3, a, others(c, view)[:2*c.Faults]...)
			all := append(others(c, view), leader(c, view))
			for i, n := range all {
				stands(t, "so far", s, stand(3, view, a), true, i >= 2*c.Faults+1)
				commit(t, s, view, 3, a, n, n)
			}
			stands(t, "all", s, stand(3, view, a), true, true)
		}
	}
}

// TestCommittedOnlyIfPrepared: commits may come ahead of all else.
func TestCommittedOnlyIfPrepared(t *testing.T) {
	for _, c := range crews()[2:] {
		s := made(t, c, 0)
		commit(t, s, 0, 3, a, c.Nodes...)
		nothing(t, "nothing was proposed", s, 3)
		propose(t, s, 0, 3, a)
		stands(t, "nobody prepares", s, stand(3, 0, a), false, false)
		prepare(t, s, 0, 3, a, others(c, 0)[:2*c.Faults-1]...)
		stands(t, "too few prepare", s, stand(3, 0, a), false, false)
		hasP(t, "too few prepare", s)
		prepare(t, s, 0, 3, a, others(c, 0)[2*c.Faults])
		stands(t, "enough prepare", s, stand(3, 0, a), true, true)
	}
}

func TestCommitOfOthersIsNone(t *testing.T) {
	for what, do := range map[string]func(s *Slots){
		"a lesser view":       func(s *Slots) { commit(t, s, 4, 3, a, 4) },
		"a greater view":      func(s *Slots) { commit(t, s, 9, 3, a, 4) },
		"another digest":      func(s *Slots) { commit(t, s, 5, 3, b, 4) },
		"another number":      func(s *Slots) { commit(t, s, 5, 2, a, 4); commit(t, s, 5, 4, a, 4) },
		"the same node again": func(s *Slots) { commit(t, s, 5, 3, a, 3, 3) },
		"a prepare":           func(s *Slots) { prepare(t, s, 5, 3, a, 4) },
	} {
		s := made(t, four(), 0)
		propose(t, s, 5, 3, a)
		prepare(t, s, 5, 3, a, 1, 3)
		commit(t, s, 5, 3, a, 2, 3)
		do(s)
		stands(t, what, s, stand(3, 5, a), true, false)
		commit(t, s, 5, 3, a, 1)
		stands(t, what, s, stand(3, 5, a), true, true)
	}
}

// TestOneMayDoAll: of a crew of one, which leads every view, what is proposed is prepared.
func TestOneMayDoAll(t *testing.T) {
	s := made(t, api.Crew{Nodes: []int{7}}, 0)
	propose(t, s, 2, 1, a)
	stands(t, "proposed", s, stand(1, 2, a), true, false)
	hasP(t, "proposed", s, stand(1, 2, a))
	is(t, "Prepare", s.Prepare(7, 2, 1, a), api.ErrArg)
	commit(t, s, 2, 1, a, 7)
	stands(t, "committed", s, stand(1, 2, a), true, true)
	propose(t, s, 3, 1, b)
	stands(t, "proposed anew", s, stand(1, 3, b), true, false)
	hasP(t, "proposed anew", s, stand(1, 3, b))
}

// P14.4 is looked at by nearly all others; here is what it tells of numbers that are not there.

func TestNumbersOutOfTheWindow(t *testing.T) {
	s := filled(t)
	nothing(t, "out of the window", s, noNumbers(10)...)
	s = made(t, four(), 0)
	nothing(t, "in the window, but empty", s, 1, 2, 3, 4, 5, 6, 7, 8)
	prepare(t, s, 0, 1, a, 2, 3, 4)
	commit(t, s, 0, 1, a, 1, 2, 3, 4)
	nothing(t, "not proposed", s, 1)
}

// P14.5

func TestPAndQAreInOrder(t *testing.T) {
	r := rand.New(rand.NewSource(14))
	for range 50 {
		s := made(t, four(), 6)
		var p, q []api.Stand
		for _, i := range r.Perm(8) {
			seq := 7 + i
			for view := range 1 + r.Intn(4) {
				d := digest(byte(9 - view))
				propose(t, s, view, seq, d)
				q = append(q, stand(seq, view, d))
			}
			last := q[len(q)-1]
			if r.Intn(2) == 0 {
				prepare(t, s, last.View, seq, last.Digest, others(four(), last.View)...)
				p = append(p, last)
			}
		}
		bySeq := func(x, y api.Stand) int { return x.Seq - y.Seq }
		slices.SortStableFunc(p, bySeq)
		slices.SortStableFunc(q, bySeq)
		for range 5 {
			hasP(t, "in order", s, p...)
			hasQ(t, "in order", s, q...)
		}
	}
}

func TestRestore(t *testing.T) {
	s := filled(t)
	r := made(t, four(), 10)
	propose(t, r, 9, 11, a)
	propose(t, r, 9, 12, a)
	prepare(t, r, 9, 12, a, 1, 3, 4)
	p, q := s.P(), s.Q()
	restore(t, r, p, q)
	hasP(t, "restored", r, p...)
	hasQ(t, "restored", r, q...)
	for seq := 11; seq <= 18; seq++ {
		stands(t, "restored", r, stand(seq, 1, digest(byte(seq))), false, false)
	}
	if r.Low() != 10 {
		t.Errorf("Low: %d", r.Low())
	}
	restore(t, r, nil, []api.Stand{})
	hasP(t, "restored to nothing", r)
	hasQ(t, "restored to nothing", r)
	nothing(t, "restored to nothing", r, 11, 12, 13, 14, 15, 16, 17, 18)
}

// TestRestoreForgetsWhoSaidWhat: also a node's greater view, and what it said in it.
func TestRestoreForgetsWhoSaidWhat(t *testing.T) {
	s := made(t, four(), 0)
	propose(t, s, 5, 3, a)
	prepare(t, s, 5, 3, a, 1, 3, 4)
	commit(t, s, 5, 3, a, 1, 2, 3, 4)
	restore(t, s, s.P(), s.Q())
	stands(t, "restored", s, stand(3, 5, a), false, false)
	hasP(t, "restored", s, stand(3, 5, a))
	prepare(t, s, 4, 3, b, 3)
	commit(t, s, 4, 3, b, 3)
	prepare(t, s, 5, 3, b, 4)
	commit(t, s, 5, 3, b, 4)
	prepare(t, s, 5, 3, a, 1, 3)
	stands(t, "prepared again", s, stand(3, 5, a), true, false)
	commit(t, s, 5, 3, a, 1, 2)
	stands(t, "two of three", s, stand(3, 5, a), true, false)
	commit(t, s, 5, 3, a, 3)
	stands(t, "committed again", s, stand(3, 5, a), true, true)
}

// TestRestoreTakesBackWhatWas goes on from a restored one as from the one that it was.
func TestRestoreTakesBackWhatWas(t *testing.T) {
	s := filled(t)
	r := made(t, four(), 10)
	restore(t, r, s.P(), s.Q())
	for _, x := range []*Slots{s, r} {
		is(t, "Propose", x.Propose(0, 12, a), api.ErrView)
		is(t, "Propose", x.Propose(1, 12, a), api.ErrOther)
		propose(t, x, 1, 12, digest(12))
		propose(t, x, 2, 11, a)
		prepare(t, x, 2, 11, a, 1, 2)
	}
	hasP(t, "gone on", r, s.P()...)
	hasQ(t, "gone on", r, s.Q()...)
}

// TestRestoreOfUnlike: P and Q need not be of each other.
func TestRestoreOfUnlike(t *testing.T) {
	s := made(t, four(), 0)
	p := []api.Stand{stand(1, 7, a), stand(8, api.MaxView, api.Digest{})}
	q := []api.Stand{stand(1, 0, b), stand(2, 0, a), stand(2, 0, b), stand(2, 0, digest(3)), stand(2, api.MaxView, api.Digest{})}
	restore(t, s, p, q)
	hasP(t, "restored", s, p...)
	hasQ(t, "restored", s, q...)
	stands(t, "restored", s, stand(1, 0, b), false, false)
	stands(t, "restored", s, stand(2, api.MaxView, api.Digest{}), false, false)
	nothing(t, "restored", s, 3, 8)
	prepare(t, s, 0, 1, b, 2, 3)
	hasP(t, "prepared", s, stand(1, 0, b), p[1])
}

// TestRestoreOfOneView: of several of one view the last one was proposed last.
func TestRestoreOfOneView(t *testing.T) {
	s := made(t, four(), 0)
	restore(t, s, nil, []api.Stand{stand(3, 1, a), stand(3, 1, b)})
	stands(t, "restored", s, stand(3, 1, b), false, false)
	is(t, "Propose", s.Propose(1, 3, a), api.ErrOther)
	is(t, "Propose", s.Propose(0, 3, b), api.ErrView)
	propose(t, s, 2, 3, a)
	hasQ(t, "one again", s, stand(3, 1, b), stand(3, 2, a))
}

// TestRestoreDoesNotLookAtP: of a crew of one, where what is proposed is prepared.
func TestRestoreDoesNotLookAtP(t *testing.T) {
	s := made(t, api.Crew{Nodes: []int{7}}, 0)
	restore(t, s, nil, []api.Stand{stand(3, 1, a)})
	stands(t, "restored", s, stand(3, 1, a), true, false)
	hasP(t, "restored", s)
	commit(t, s, 1, 3, a, 7)
	hasP(t, "nor does Commit", s)
	propose(t, s, 1, 3, a)
	hasP(t, "Propose does", s, stand(3, 1, a))
}

func TestRestoreRefuses(t *testing.T) {
	ok := []api.Stand{stand(11, 0, a)}
	var rows [][2][]api.Stand
	for _, seq := range noNumbers(10) {
		x := []api.Stand{stand(seq, 0, a)}
		rows = append(rows, [2][]api.Stand{x, nil}, [2][]api.Stand{nil, x}, [2][]api.Stand{x, ok}, [2][]api.Stand{ok, x})
	}
	for _, view := range noViews {
		x := []api.Stand{stand(11, view, a)}
		rows = append(rows, [2][]api.Stand{x, nil}, [2][]api.Stand{nil, x}, [2][]api.Stand{x, ok}, [2][]api.Stand{ok, x})
	}
	for _, p := range [][]api.Stand{
		{stand(11, 0, a), stand(11, 1, b)}, {stand(11, 0, a), stand(11, 0, a)}, {stand(12, 0, a), stand(11, 1, b)}, {stand(11, 0, a), stand(12, 0, a), stand(12, 1, a)},
		{stand(11, 0, a), stand(12, -1, a)}, {stand(11, 0, a), stand(19, 0, a)}, {stand(10, 0, a), stand(11, 0, a)},
	} {
		rows = append(rows, [2][]api.Stand{p, nil}, [2][]api.Stand{p, ok})
	}
	for _, q := range [][]api.Stand{
		{stand(12, 0, a), stand(11, 0, b)}, {stand(11, 1, a), stand(11, 0, b)}, {stand(11, 0, b), stand(11, 0, a)},
		{stand(11, 0, a), stand(11, 0, a)}, {stand(11, 0, a), stand(11, 1, a)}, {stand(11, 0, a), stand(11, 1, b), stand(11, 2, a)},
		{stand(11, 0, digest(1)), stand(11, 1, digest(2)), stand(11, 2, digest(3)), stand(11, 3, digest(4)), stand(11, 4, digest(5))},
		{stand(11, 0, digest(1)), stand(11, 0, digest(2)), stand(11, 0, digest(3)), stand(11, 0, digest(4)), stand(11, 0, digest(5))},
		{stand(11, 0, a), stand(12, api.MaxView+1, b)}, {stand(11, 0, a), stand(19, 0, b)}, {stand(11, 0, api.Digest{0: 2}), stand(11, 0, api.Digest{0: 1, 31: 9})},
		{stand(10, 0, a), stand(11, 0, a)},
	} {
		rows = append(rows, [2][]api.Stand{nil, q}, [2][]api.Stand{ok, q})
	}
	s := filled(t)
	was := seen(s)
	for i, row := range rows {
		if e := s.Restore(row[0], row[1]); e != api.ErrArg || !slices.Equal(seen(s), was) {
			t.Errorf("row %d: Restore(%v, %v): %d", i, row[0], row[1], e)
		}
	}
	is(t, "Prepare", s.Prepare(3, 0, 18, a), api.ErrView)
	restore(t, s, ok, ok)
}

// TestRestoreOfAll takes as much as there may be.
func TestRestoreOfAll(t *testing.T) {
	low := api.MaxNumber - 8
	s := made(t, four(), low)
	var p, q []api.Stand
	for seq := low + 1; seq <= low+8; seq++ {
		p = append(p, stand(seq, 5, a))
		for n := range byte(4) {
			q = append(q, stand(seq, int(n/2), digest(n)))
		}
	}
	restore(t, s, p, q)
	hasP(t, "all", s, p...)
	hasQ(t, "all", s, q...)
}

// P14.6

func TestCrewIsNotKept(t *testing.T) {
	room := []int{1, 2, 3, 4, 9}
	c := api.Crew{Faults: 1, Nodes: room[:4]}
	s := made(t, c, 0)
	copy(room, []int{5, 6, 7, 8, 10})
	propose(t, s, 0, 3, a)
	prepare(t, s, 0, 3, a, 2, 3)
	commit(t, s, 0, 3, a, 1, 2, 3)
	is(t, "Commit", s.Commit(5, 0, 3, a), api.ErrCrew)
	stands(t, "as with the crew that was handed in", s, stand(3, 0, a), true, true)
	if !slices.Equal(room, []int{5, 6, 7, 8, 10}) {
		t.Errorf("changed: %v", room)
	}
}

func TestListsAreNotKept(t *testing.T) {
	s := made(t, four(), 0)
	room := []api.Stand{stand(1, 2, a), stand(2, 3, b), stand(9, 9, a)}
	was := slices.Clone(room)
	restore(t, s, room[:2], room[:2])
	if !slices.Equal(room, was) {
		t.Errorf("changed: %v", room)
	}
	for i := range room {
		room[i] = stand(4, 4, digest(44))
	}
	hasP(t, "behind a change of what was handed in", s, was[:2]...)
	hasQ(t, "behind a change of what was handed in", s, was[:2]...)
}

func TestAnswersAreNewMemory(t *testing.T) {
	s := filled(t)
	was := seen(s)
	for _, l := range [][]api.Stand{s.P(), s.Q()} {
		if len(l) == 0 {
			t.Fatal("nothing to look at")
		}
		kept := slices.Concat(s.P(), s.Q())
		l = l[:cap(l)]
		for i := range l {
			l[i] = stand(1, 1, digest(77))
		}
		_ = append(l[:1], l...)
		if !slices.Equal(seen(s), was) || !slices.Equal(kept, slices.Concat(s.P(), s.Q())) {
			t.Error("behind a change of what was answered something else is")
		}
	}
	p, q := s.P(), s.Q()
	propose(t, s, 7, 12, a)
	is(t, "Raise", s.Raise(13), api.OK)
	if !slices.Equal(p, was[:len(p)]) || !slices.Equal(q, was[len(p)+1:][:len(q)]) {
		t.Error("an answer changes later")
	}
}

// P14.7

// say tells slots something; it may be told.
func say(t *testing.T, s *Slots, x told) {
	t.Helper()
	switch x.what {
	case 'o':
		propose(t, s, x.view, x.seq, x.d)
	case 'r':
		prepare(t, s, x.view, x.seq, x.d, x.node)
	case 'c':
		commit(t, s, x.view, x.seq, x.d, x.node)
	}
}

// sayings are, of one view, what a leader proposes, and what each node prepares and commits: mostly that.
func sayings(r *rand.Rand, c api.Crew, view int) []told {
	var all []told
	for seq := 1; seq <= 2; seq++ {
		d := digest(byte(view))
		if r.Intn(6) > 0 {
			all = append(all, told{'o', 0, view, seq, d})
		}
		for _, n := range c.Nodes {
			if r.Intn(6) > 0 && n != leader(c, view) {
				all = append(all, told{'r', n, view, seq, digest(byte(view + r.Intn(6)/5))})
			}
			if r.Intn(6) > 0 {
				all = append(all, told{'c', n, view, seq, digest(byte(view + r.Intn(6)/5))})
			}
		}
	}
	return all
}

func TestOrderDoesNotMatter(t *testing.T) {
	prepared, committed := 0, 0
	for seed := range int64(150) {
		r := rand.New(rand.NewSource(seed))
		c := crews()[seed%6]
		var views [][]told
		for view := range 4 {
			views = append(views, sayings(r, c, view))
		}
		var first []api.Stand
		for round := range 8 {
			s := made(t, c, 0)
			for _, l := range views {
				r.Shuffle(len(l), func(i, j int) { l[i], l[j] = l[j], l[i] })
				for _, x := range l {
					say(t, s, x)
					if r.Intn(4) == 0 { // heard twice
						say(t, s, x)
					}
				}
			}
			if now := seen(s); round == 0 {
				first = now
			} else if !slices.Equal(now, first) {
				t.Fatalf("seed %d: another order: %v, not %v", seed, now, first)
			}
			for seq := 1; seq <= 2; seq++ {
				if s.Prepared(seq) {
					prepared++
				}
				if s.Committed(seq) {
					committed++
				}
			}
		}
	}
	if prepared < 300 || committed < 100 {
		t.Errorf("too few were prepared (%d), or committed (%d)", prepared, committed)
	}
}

// TestPreparedStays says whatever may be said in that view, or a lesser one, or elsewhere.
func TestPreparedStays(t *testing.T) {
	for seed := range int64(60) {
		r := rand.New(rand.NewSource(seed))
		c := crews()[seed%6]
		s := made(t, c, 0)
		propose(t, s, 2, 3, a)
		prepare(t, s, 2, 3, a, others(c, 2)[:2*c.Faults]...)
		for range 200 {
			view, seq, d := r.Intn(3), 3, digest(byte(r.Intn(4)))
			if r.Intn(4) == 0 {
				view, seq = r.Intn(9), 4+r.Intn(6)
			}
			switch node := r.Intn(30); r.Intn(3) {
			case 0:
				s.Propose(view, seq, d)
			case 1:
				s.Prepare(node, view, seq, d)
			case 2:
				s.Commit(node, view, seq, d)
			}
			if x, _ := s.At(3); x != stand(3, 2, a) || !s.Prepared(3) || s.P()[0] != stand(3, 2, a) {
				t.Fatalf("seed %d: At(3) %v, %v, P %v", seed, x, s.Prepared(3), s.P())
			}
		}
	}
}

func TestPStays(t *testing.T) {
	c := four()
	s := made(t, c, 0)
	propose(t, s, 0, 3, a)
	prepare(t, s, 0, 3, a, 2, 3)
	propose(t, s, 1, 3, b)
	stands(t, "another view's", s, stand(3, 1, b), false, false)
	hasP(t, "another view's", s, stand(3, 0, a))
	prepare(t, s, 1, 3, a, 1, 3)
	commit(t, s, 1, 3, b, 1, 2, 3)
	hasP(t, "not what was proposed", s, stand(3, 0, a))
	is(t, "Raise", s.Raise(2), api.OK)
	hasP(t, "raised below it", s, stand(3, 0, a))
	prepare(t, s, 1, 3, b, 4)
	hasP(t, "one of two", s, stand(3, 0, a))
	propose(t, s, 2, 3, a)
	hasP(t, "the same again, not prepared in that view", s, stand(3, 0, a))
	prepare(t, s, 2, 3, a, 1, 4)
	hasP(t, "prepared", s, stand(3, 2, a))
	is(t, "Raise", s.Raise(3), api.OK)
	hasP(t, "raised", s)
}

// P14.8

// TestTwoAreNotPrepared: of a crew of four, one at most says unlike things to two replicas.
func TestTwoAreNotPrepared(t *testing.T) {
	c, view := four(), 2
	one, both := 0, 0
	for liar := range 5 {
		for choices := range 3 * 3 * 3 * 3 * 3 * 3 * 3 * 3 {
			left := choices
			next := func() int {
				n := left % 3
				left /= 3
				return n
			}
			s, r := made(t, c, 0), made(t, c, 0)
			for _, n := range c.Nodes {
				mine := next()
				yours := next()
				if n != liar {
					yours = mine
				}
				for i, x := range []*Slots{s, r} {
					said := []int{mine, yours}[i]
					switch {
					case said == 0:
					case n == leader(c, view):
						propose(t, x, view, 1, digest(byte(said)))
					default:
						prepare(t, x, view, 1, digest(byte(said)), n)
					}
				}
			}
			agree(t, s, r, &one, &both)
		}
	}
	if one == 0 || both == 0 {
		t.Errorf("prepared at one %d times, at both %d times", one, both)
	}
}

func agree(t *testing.T, s, r *Slots, one, both *int) {
	t.Helper()
	p, q := s.P(), r.P()
	if len(p)+len(q) == 1 {
		*one++
	}
	if len(p)+len(q) == 2 {
		*both++
		if !slices.Equal(p, q) {
			t.Fatalf("both are prepared: %v, %v", p, q)
		}
	}
}

// TestTwoAreNotPreparedAmongSeven: two say unlike things, at random, the leader mostly among them.
func TestTwoAreNotPreparedAmongSeven(t *testing.T) {
	c := crews()[5]
	r := rand.New(rand.NewSource(8))
	one, both := 0, 0
	for range 20000 {
		view := r.Intn(7)
		x, y := made(t, c, 0), made(t, c, 0)
		liars := []int{leader(c, view), anyOf(r, c.Nodes)}
		for _, n := range c.Nodes {
			all := []api.Digest{anyOf(r, []api.Digest{a, b})}
			all = append(all, all[0])
			if slices.Contains(liars, n) {
				all = []api.Digest{a, b}
			}
			for i, s := range []*Slots{x, y} {
				if n == leader(c, view) {
					propose(t, s, view, 1, all[i])
				} else {
					prepare(t, s, view, 1, all[i], n)
				}
			}
		}
		agree(t, x, y, &one, &both)
	}
	if one == 0 {
		t.Errorf("prepared at one %d times, at both %d times", one, both)
	}
}

// The chapter's examples.

func TestExamples(t *testing.T) {
	s, e := New(four(), 2, 0)
	is(t, "New", e, api.OK)
	propose(t, s, 0, 3, a)
	prepare(t, s, 0, 3, a, 2)
	stands(t, "the first row", s, stand(3, 0, a), false, false)
	prepare(t, s, 0, 3, a, 3)
	stands(t, "the first row", s, stand(3, 0, a), true, false)
	hasP(t, "the first row", s, stand(3, 0, a))
	is(t, "Prepare", s.Prepare(1, 0, 3, a), api.ErrArg)
	is(t, "Prepare", s.Prepare(4, 0, 3, b), api.OK)
	is(t, "Prepare", s.Prepare(4, 0, 3, a), api.ErrOther)
	commit(t, s, 0, 3, a, 1, 2, 3)
	stands(t, "the third row", s, stand(3, 0, a), true, true)
	is(t, "Propose", s.Propose(0, 3, b), api.ErrOther)
	is(t, "Propose", s.Propose(0, 9, a), api.ErrWindow)
	propose(t, s, 1, 3, b)
	stands(t, "the last row", s, stand(3, 1, b), false, false)
	hasP(t, "the last row", s, stand(3, 0, a))
	hasQ(t, "the last row", s, stand(3, 0, a), stand(3, 1, b))
}
