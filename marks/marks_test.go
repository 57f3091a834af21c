package marks

import (
	"math"
	"math/rand"
	"slices"
	"testing"

	"bastide/api"
)

// mark is one whose digest is unlike others in its last byte, so that all of it must be looked at; the 0-th is the zero one.
func mark(seq int, n byte) api.Mark {
	return api.Mark{Seq: seq, Digest: api.Digest{31: n}}
}

func four() api.Crew {
	return api.Crew{Faults: 1, Nodes: []int{1, 2, 3, 4}}
}

func crews() []api.Crew {
	return []api.Crew{
		{Nodes: []int{1}}, {Nodes: []int{28}}, four(), {Faults: 1, Nodes: []int{2, 9, 21, 28}},
		{Faults: 2, Nodes: []int{1, 2, 3, 4, 5, 6, 7}}, {Faults: 2, Nodes: []int{3, 4, 10, 15, 20, 27, 28}},
	}
}

// noNumbers are those that nobody may tell above a low mark.
func noNumbers(low int) []int {
	return []int{low, low - 1, -1, 0, low + 1 - 1<<32, math.MinInt, math.MinInt + low, api.MaxNumber + 1, api.MaxNumber + 2, math.MaxInt}
}

// noLows are numbers to which a low mark can't be raised.
func noLows(low int) []int {
	return []int{low - 1, -1, math.MinInt, low - 1<<32, api.MaxNumber + 1, api.MaxNumber + 2, math.MaxInt}
}

// made has what may be made.
func made(t *testing.T, c api.Crew, low api.Mark) *Marks {
	t.Helper()
	m, e := New(c, low)
	if e != api.OK || m == nil {
		t.Fatalf("New(%v, %v): %d", c, low, e)
	}
	return m
}

func is(t *testing.T, what string, got, want api.Errno) {
	t.Helper()
	if got != want {
		t.Errorf("%s: %d, not %d", what, got, want)
	}
}

// vote has nodes tell a mark that they may tell.
func vote(t *testing.T, m *Marks, x api.Mark, nodes ...int) {
	t.Helper()
	for _, n := range nodes {
		is(t, "Vote", m.Vote(n, x), api.OK)
	}
}

func raise(t *testing.T, m *Marks, x api.Mark) {
	t.Helper()
	is(t, "Raise", m.Raise(x), api.OK)
}

func hasOf(t *testing.T, what string, m *Marks, node int, want ...api.Mark) {
	t.Helper()
	if l := m.Of(node); !slices.Equal(l, want) {
		t.Errorf("%s: Of(%d): %v, not %v", what, node, l, want)
	}
}

// stable and known look at what is told by enough; of the number 0 there is no such mark.
func stable(t *testing.T, what string, m *Marks, want api.Mark) {
	t.Helper()
	if x, ok := m.Stable(); x != want || ok != (want.Seq > 0) {
		t.Errorf("%s: Stable: %v, %v, not %v", what, x, ok, want)
	}
}

func known(t *testing.T, what string, m *Marks, want api.Mark) {
	t.Helper()
	if x, ok := m.Known(); x != want || ok != (want.Seq > 0) {
		t.Errorf("%s: Known: %v, %v, not %v", what, x, ok, want)
	}
}

// nothing looks at marks of which no node told any.
func nothing(t *testing.T, what string, m *Marks) {
	t.Helper()
	stable(t, what, m, api.Mark{})
	known(t, what, m, api.Mark{})
	for node := -1; node <= 29; node++ {
		hasOf(t, what, m, node)
	}
}

// filled has marks above 10 of a crew of four: 12 is stable, 14 known, and the node 4 has told as many as it may.
func filled(t *testing.T) *Marks {
	t.Helper()
	m := made(t, four(), mark(10, 7))
	vote(t, m, mark(12, 1), 1, 2, 3)
	vote(t, m, mark(12, 2), 4)
	vote(t, m, mark(14, 3), 1, 4)
	vote(t, m, mark(16, 4), 1)
	vote(t, m, mark(16, 5), 4)
	vote(t, m, mark(18, 6), 4)
	return m
}

// seen is all that marks tell.
func seen(m *Marks) []api.Mark {
	l := []api.Mark{m.Low()}
	for _, told := range []func() (api.Mark, bool){m.Stable, m.Known} {
		x, ok := told()
		l = append(l, x)
		if ok {
			l = append(l, api.Mark{Seq: -2})
		}
	}
	for node := -1; node <= 29; node++ {
		l = append(append(l, api.Mark{Seq: -1}), m.Of(node)...)
	}
	return l
}

// P15.1

func TestNew(t *testing.T) {
	for _, c := range crews() {
		for _, seq := range []int{0, 1, 3, 4, 1 << 32, api.MaxNumber - 8, api.MaxNumber - 1, api.MaxNumber} {
			for _, n := range []byte{0, 9} {
				m := made(t, c, mark(seq, n))
				if m.Low() != mark(seq, n) {
					t.Fatalf("New(%v, %d): Low: %v", c, seq, m.Low())
				}
				nothing(t, "new", m)
			}
		}
	}
}

func TestNewRefuses(t *testing.T) {
	for i, c := range []struct {
		crew api.Crew
		low  int
		want api.Errno
	}{
		{api.Crew{}, 0, api.ErrCrew}, {api.Crew{Nodes: []int{}}, 0, api.ErrCrew}, {api.Crew{Faults: 1, Nodes: []int{1, 2, 3}}, 0, api.ErrCrew},
		{api.Crew{Faults: 1, Nodes: []int{2, 1, 3, 4}}, 0, api.ErrCrew}, {api.Crew{Faults: 1, Nodes: []int{1, 2, 2, 4}}, 0, api.ErrCrew}, {api.Crew{Faults: 1, Nodes: []int{1, 2, 3, 4, 5}}, 0, api.ErrCrew},
		{api.Crew{Faults: 3, Nodes: []int{1, 2, 3, 4, 5, 6, 7, 8, 9, 10}}, 0, api.ErrCrew}, {api.Crew{Nodes: []int{29}}, 0, api.ErrCrew}, {api.Crew{Nodes: []int{0}}, 0, api.ErrCrew},
		{api.Crew{Faults: -1, Nodes: []int{1}}, 0, api.ErrCrew}, {api.Crew{Nodes: []int{1, 2, 3, 4}}, 0, api.ErrCrew},
		{api.Crew{}, -1, api.ErrCrew}, {api.Crew{}, math.MaxInt, api.ErrCrew},
		{four(), -1, api.ErrRange}, {four(), math.MinInt, api.ErrRange}, {four(), -1 << 32, api.ErrRange},
		{four(), api.MaxNumber + 1, api.ErrRange}, {four(), api.MaxNumber + 2, api.ErrRange}, {four(), math.MaxInt, api.ErrRange},
	} {
		if m, e := New(c.crew, mark(c.low, 1)); m != nil || e != c.want {
			t.Errorf("row %d: %v, %d", i, m, e)
		}
	}
}

func TestNone(t *testing.T) {
	var none *Marks
	for what, m := range map[string]*Marks{"nil": none, "one that New did not make": {}, "a new zero one": new(Marks)} {
		for _, seq := range []int{0, 1, 4, -1, math.MinInt, api.MaxNumber + 1, math.MaxInt} {
			for _, node := range []int{0, 1, 4, -1, 29} {
				is(t, what, m.Vote(node, mark(seq, 1)), api.ErrNil)
			}
			is(t, what, m.Raise(mark(seq, 1)), api.ErrNil)
		}
		nothing(t, what, m)
		if m.Low() != (api.Mark{}) {
			t.Errorf("%s: Low: %v", what, m.Low())
		}
	}
}

// P15.2

func TestVote(t *testing.T) {
	for _, c := range crews() {
		for _, low := range []int{0, 3, api.MaxNumber - 5} {
			m := made(t, c, mark(low, 0))
			for _, n := range c.Nodes {
				for _, seq := range []int{low + 1, api.MaxNumber, low + 4} {
					for range 2 { // told twice is told once
						vote(t, m, mark(seq, byte(n)), n)
					}
				}
				hasOf(t, "told", m, n, mark(low+1, byte(n)), mark(low+4, byte(n)), mark(api.MaxNumber, byte(n)))
			}
			if m.Low() != mark(low, 0) {
				t.Errorf("Low: %v", m.Low())
			}
		}
	}
}

func TestTheLowMarkIsTheLast(t *testing.T) {
	m := made(t, four(), mark(api.MaxNumber, 1))
	for _, seq := range append(noNumbers(api.MaxNumber), 1) {
		is(t, "Vote", m.Vote(1, mark(seq, 1)), api.ErrRange)
	}
	nothing(t, "no numbers are left", m)
}

func TestVoteRefuses(t *testing.T) {
	m := filled(t)
	was := seen(m)
	refuses := func(node int, x api.Mark, want api.Errno) {
		t.Helper()
		if e := m.Vote(node, x); e != want {
			t.Errorf("Vote(%d, %v): %d, not %d", node, x, e, want)
		}
		if !slices.Equal(seen(m), was) {
			t.Errorf("Vote(%d, %v) changed something", node, x)
		}
	}
	for _, node := range []int{0, -1, 5, 28, 29, 31, 34, 1<<32 + 1, math.MinInt, math.MaxInt} {
		for _, seq := range append(noNumbers(10), 11, 12, api.MaxNumber) {
			refuses(node, mark(seq, 1), api.ErrCrew)
			refuses(node, mark(seq, 2), api.ErrCrew)
		}
	}
	for node := 1; node <= 4; node++ {
		for _, seq := range noNumbers(10) {
			refuses(node, mark(seq, 1), api.ErrRange)
			refuses(node, mark(seq, 7), api.ErrRange)
		}
		for _, x := range m.Of(node) {
			for bit := range 256 {
				near := x
				near.Digest[bit/8] ^= 1 << (bit % 8)
				refuses(node, near, api.ErrOther)
			}
			refuses(node, x, api.OK)
		}
	}
	vote(t, m, mark(11, 1), 1)
	hasOf(t, "it may tell others", m, 1, mark(11, 1), mark(12, 1), mark(14, 3), mark(16, 4))
}

// TestZeroDigestIsOne: nothing was told is another thing than a zero digest.
func TestZeroDigestIsOne(t *testing.T) {
	m := made(t, four(), api.Mark{})
	vote(t, m, mark(1, 0), 1, 2)
	known(t, "two of four", m, mark(1, 0))
	is(t, "Vote", m.Vote(1, mark(1, 1)), api.ErrOther)
	vote(t, m, mark(1, 1), 3)
	is(t, "Vote", m.Vote(3, mark(1, 0)), api.ErrOther)
	stable(t, "two of four", m, api.Mark{})
	vote(t, m, mark(1, 0), 4)
	stable(t, "three of four", m, mark(1, 0))
}

// TestFourAtMost tells seven numbers in any order, by one node; the others tell something, too.
func TestFourAtMost(t *testing.T) {
	for seed := range int64(300) {
		m := made(t, four(), mark(4, 0))
		vote(t, m, mark(6, 9), 2, 3)
		var told []api.Mark
		for _, i := range rand.New(rand.NewSource(seed)).Perm(7) {
			x := mark(5+i, byte(i))
			vote(t, m, x, 1)
			told = append(told, x)
			slices.SortFunc(told, func(a, b api.Mark) int { return a.Seq - b.Seq })
			if len(told) == 5 {
				told = told[1:]
			}
			hasOf(t, "told", m, 1, told...)
		}
		hasOf(t, "what others tell stays", m, 2, mark(6, 9))
		hasOf(t, "what others tell stays", m, 3, mark(6, 9))
	}
}

// TestForgotten: what is forgotten is not held against what is told; but it would be the least one again.
func TestForgotten(t *testing.T) {
	m := made(t, four(), api.Mark{})
	vote(t, m, mark(4, 1), 1, 2, 3)
	stable(t, "told by three", m, mark(4, 1))
	for _, seq := range []int{8, 12, 16, 20} {
		vote(t, m, mark(seq, 1), 1)
	}
	stable(t, "one has forgotten it", m, api.Mark{})
	known(t, "one has forgotten it", m, mark(4, 1))
	four := []api.Mark{mark(8, 1), mark(12, 1), mark(16, 1), mark(20, 1)}
	for _, x := range []api.Mark{mark(4, 1), mark(4, 2), mark(7, 1)} {
		vote(t, m, x, 1)
		hasOf(t, "less than its four", m, 1, four...)
	}
	is(t, "Vote", m.Vote(1, mark(8, 2)), api.ErrOther)
	raise(t, m, mark(8, 1))
	vote(t, m, mark(9, 3), 1)
	hasOf(t, "raised", m, 1, mark(9, 3), mark(12, 1), mark(16, 1), mark(20, 1))
}

// P15.3

func TestSomeAndMost(t *testing.T) {
	for _, c := range crews() {
		for start := range c.Nodes {
			m := made(t, c, mark(2, 1))
			x := mark(4, 1)
			for i := range c.Nodes {
				n := c.Nodes[(start+i)%len(c.Nodes)]
				for range 2 { // each counts once
					vote(t, m, x, n)
					wantStable, wantKnown := api.Mark{}, api.Mark{}
					if i >= 2*c.Faults {
						wantStable = x
					}
					if i >= c.Faults {
						wantKnown = x
					}
					stable(t, "told by some", m, wantStable)
					known(t, "told by some", m, wantKnown)
				}
			}
		}
	}
}

func TestTheGreatestNumber(t *testing.T) {
	m := made(t, four(), api.Mark{})
	vote(t, m, mark(8, 1), 1, 2, 3)
	vote(t, m, mark(4, 1), 1, 2, 3, 4)
	stable(t, "more tell a lesser one", m, mark(8, 1))
	known(t, "more tell a lesser one", m, mark(8, 1))
	vote(t, m, mark(12, 1), 1, 4)
	stable(t, "two tell a greater one", m, mark(8, 1))
	known(t, "two tell a greater one", m, mark(12, 1))
	vote(t, m, mark(16, 1), 1)
	vote(t, m, mark(16, 2), 2)
	stable(t, "two tell unlike ones", m, mark(8, 1))
	known(t, "two tell unlike ones", m, mark(12, 1))
	vote(t, m, mark(12, 1), 2)
	stable(t, "three tell it", m, mark(12, 1))
	vote(t, m, mark(api.MaxNumber, 1), 2, 3, 4)
	stable(t, "the greatest of all", m, mark(api.MaxNumber, 1))
}

func TestTheLeastDigest(t *testing.T) {
	least := api.Mark{Seq: 4, Digest: api.Digest{0: 1, 31: 255}}
	for _, other := range []api.Digest{{0: 2}, {0: 128}, {0: 255}, {0: 1, 1: 1}, {0: 1, 15: 128}, {0: 1, 30: 1}} {
		for _, pairs := range [][]int{{1, 2, 3, 4}, {3, 4, 1, 2}, {1, 4, 2, 3}, {2, 3, 1, 4}} {
			m := made(t, four(), api.Mark{})
			x := api.Mark{Seq: 4, Digest: other}
			vote(t, m, x, pairs[:2]...)
			known(t, "two tell it", m, x)
			vote(t, m, least, pairs[2:]...)
			known(t, "two tell one, two another", m, least)
			stable(t, "two tell one, two another", m, api.Mark{})
			vote(t, m, api.Mark{Seq: 8, Digest: other}, pairs[1:3]...)
			known(t, "a greater number goes ahead of all digests", m, api.Mark{Seq: 8, Digest: other})
		}
	}
}

// TestKnownIsNotStable: of seven, four tell a mark that is not the least one.
func TestKnownIsNotStable(t *testing.T) {
	m := made(t, crews()[4], api.Mark{})
	vote(t, m, mark(4, 9), 1, 2, 3, 4)
	vote(t, m, mark(4, 1), 5, 6)
	known(t, "two tell a lesser digest", m, mark(4, 9))
	vote(t, m, mark(4, 1), 7)
	known(t, "three tell a lesser digest", m, mark(4, 1))
	stable(t, "no five tell one", m, api.Mark{})
}

func TestOf(t *testing.T) {
	m := filled(t)
	hasOf(t, "filled", m, 1, mark(12, 1), mark(14, 3), mark(16, 4))
	hasOf(t, "filled", m, 2, mark(12, 1))
	hasOf(t, "filled", m, 3, mark(12, 1))
	hasOf(t, "filled", m, 4, mark(12, 2), mark(14, 3), mark(16, 5), mark(18, 6))
	for _, node := range []int{0, -1, 5, 29, 1<<32 + 1, math.MinInt, math.MaxInt} {
		hasOf(t, "not in the crew", m, node)
	}
}

func TestRaise(t *testing.T) {
	for seq := 10; seq <= 20; seq++ {
		m := filled(t)
		var was [5][]api.Mark
		for n := range 5 {
			was[n] = slices.DeleteFunc(m.Of(n), func(x api.Mark) bool { return x.Seq <= seq })
		}
		x := mark(seq, 77)
		raise(t, m, x)
		if m.Low() != x {
			t.Errorf("Raise(%d): Low: %v", seq, m.Low())
		}
		for n, want := range was {
			hasOf(t, "raised", m, n, want...)
		}
		wantStable, wantKnown := mark(12, 1), mark(14, 3)
		if seq >= 12 {
			wantStable = api.Mark{}
		}
		if seq >= 14 {
			wantKnown = api.Mark{}
		}
		stable(t, "raised", m, wantStable)
		known(t, "raised", m, wantKnown)
		is(t, "Vote", m.Vote(2, x), api.ErrRange)
		vote(t, m, mark(api.MaxNumber, 1), 1, 2, 3)
		stable(t, "told behind it", m, mark(api.MaxNumber, 1))
	}
}

func TestRaiseToWhereItIs(t *testing.T) {
	m := filled(t)
	was := seen(m)
	raise(t, m, mark(10, 8))
	if m.Low() != mark(10, 8) {
		t.Errorf("Low: %v", m.Low())
	}
	raise(t, m, mark(10, 7))
	if !slices.Equal(seen(m), was) {
		t.Error("something else changed")
	}
}

func TestRaiseToTheLast(t *testing.T) {
	m := filled(t)
	raise(t, m, mark(api.MaxNumber, 0))
	nothing(t, "raised to the last number", m)
	raise(t, m, mark(api.MaxNumber, 1))
	is(t, "Vote", m.Vote(1, mark(api.MaxNumber, 1)), api.ErrRange)
	is(t, "Raise", m.Raise(mark(api.MaxNumber-1, 1)), api.ErrRange)
}

func TestRaiseRefuses(t *testing.T) {
	m := filled(t)
	was := seen(m)
	for _, seq := range append(noLows(10), 0) {
		for _, n := range []byte{0, 7} {
			is(t, "Raise", m.Raise(mark(seq, n)), api.ErrRange)
			if !slices.Equal(seen(m), was) {
				t.Errorf("Raise(%d) changed something", seq)
			}
		}
	}
}

// P15.4

func TestAnswersAreNewMemory(t *testing.T) {
	m := filled(t)
	was := seen(m)
	for n := 1; n <= 4; n++ {
		l, again := m.Of(n), m.Of(n)
		keep := slices.Clone(again)
		for i := range l {
			l[i] = mark(1, 99)
		}
		l = l[:cap(l)]
		for i := range l {
			l[i] = mark(2, 99)
		}
		if !slices.Equal(again, keep) {
			t.Errorf("two answers share memory: %v", again)
		}
	}
	if !slices.Equal(seen(m), was) {
		t.Error("what was answered was kept")
	}
	l := m.Of(1)
	keep := slices.Clone(l)
	vote(t, m, mark(11, 1), 1)
	vote(t, m, mark(13, 1), 1)
	raise(t, m, mark(15, 1))
	if !slices.Equal(l, keep) {
		t.Errorf("an earlier answer is %v now", l)
	}
}

func TestTheCrewIsNotKept(t *testing.T) {
	room := []int{1, 2, 3, 4, 5, 6}
	m := made(t, api.Crew{Faults: 1, Nodes: room[:4]}, api.Mark{})
	if !slices.Equal(room, []int{1, 2, 3, 4, 5, 6}) {
		t.Errorf("New changed its nodes: %v", room)
	}
	copy(room, []int{28, 27, 26, 25, 24, 23})
	vote(t, m, mark(4, 1), 1, 2, 3)
	stable(t, "told by its nodes", m, mark(4, 1))
	is(t, "Vote", m.Vote(25, mark(4, 1)), api.ErrCrew)
	if !slices.Equal(room, []int{28, 27, 26, 25, 24, 23}) {
		t.Errorf("what was handed in changed: %v", room)
	}
}

func TestTwoDoNotShare(t *testing.T) {
	m, other := filled(t), filled(t)
	was := seen(other)
	vote(t, m, mark(20, 1), 1, 2, 3, 4)
	raise(t, m, mark(18, 1))
	if !slices.Equal(seen(other), was) {
		t.Error("other marks changed, too")
	}
}

// P15.5

// TestLiars: f nodes tell what is not so, all others what is so, as far as each of them is.
func TestLiars(t *testing.T) {
	so := func(seq int) api.Mark { return mark(seq, byte(seq)) }
	stables, knowns := 0, 0
	for seed := range int64(2000) {
		r := rand.New(rand.NewSource(seed))
		c := crews()[seed%6]
		liars := r.Perm(len(c.Nodes))[:c.Faults]
		m := made(t, c, api.Mark{})
		for range 60 {
			i := r.Intn(len(c.Nodes))
			x := so(1 + r.Intn(6))
			if slices.Contains(liars, i) { // all of them the same, or something else, or of no number yet
				x = mark(x.Seq+r.Intn(3)*r.Intn(5), 100+byte(r.Intn(4)/3))
			}
			m.Vote(c.Nodes[i], x)
			if y, ok := m.Stable(); ok {
				stables++
				if y != so(y.Seq) {
					t.Fatalf("seed %d: stable is %v", seed, y)
				}
			}
			if y, ok := m.Known(); ok {
				knowns++
				if y != so(y.Seq) {
					t.Fatalf("seed %d: known is %v", seed, y)
				}
			}
		}
	}
	if stables < 1000 || knowns <= stables {
		t.Errorf("too few were stable (%d), or known (%d)", stables, knowns)
	}
}

// P15.6

// TestTwoAreNotStable: whatever the nodes of a crew tell of one number, most tell one thing at most.
func TestTwoAreNotStable(t *testing.T) {
	for _, c := range crews() {
		choices := 1
		for range c.Nodes {
			choices *= 4
		}
		for choice := range choices {
			m := made(t, c, api.Mark{})
			var told [4]int
			for i, n := range c.Nodes {
				d := choice >> (2 * i) & 3
				told[d]++
				vote(t, m, mark(4, byte(d)), n)
				for other := range 4 { // a second word is none
					if other != d {
						is(t, "Vote", m.Vote(n, mark(4, byte(other))), api.ErrOther)
					}
				}
			}
			want := api.Mark{}
			for d, n := range told {
				if n < 2*c.Faults+1 {
					continue
				}
				if want != (api.Mark{}) {
					t.Fatalf("two are told by most: %v", told)
				}
				want = mark(4, byte(d))
			}
			stable(t, "told by all", m, want)
		}
	}
}

// TestStableStays: nodes tell what they like, but not so many numbers that what is stable is forgotten.
func TestStableStays(t *testing.T) {
	for seed := range int64(300) {
		r := rand.New(rand.NewSource(seed))
		c := crews()[seed%6]
		m := made(t, c, api.Mark{})
		vote(t, m, mark(4, 1), c.Nodes...)
		last := mark(4, 1)
		for range 100 {
			m.Vote(c.Nodes[r.Intn(len(c.Nodes))], mark(r.Intn(8), byte(r.Intn(9)/8)))
			x, ok := m.Stable()
			if !ok || x.Seq < last.Seq || x.Seq == last.Seq && x != last {
				t.Fatalf("seed %d: %v, %v, behind %v", seed, x, ok, last)
			}
			last = x
		}
		raise(t, m, mark(last.Seq-1, 1))
		stable(t, "raised below it", m, last)
		raise(t, m, last)
		stable(t, "raised to it", m, api.Mark{})
	}
}

// TestStableGoes: one who tells ever greater numbers may have what is stable forgotten.
func TestStableGoes(t *testing.T) {
	m := made(t, four(), api.Mark{})
	vote(t, m, mark(4, 1), 1, 2, 3)
	for seq := 5; seq <= 7; seq++ {
		vote(t, m, mark(seq, 1), 1)
		stable(t, "no more than four", m, mark(4, 1))
	}
	vote(t, m, mark(8, 1), 1)
	stable(t, "a fifth one", m, api.Mark{})
	vote(t, m, mark(4, 1), 4)
	stable(t, "another one tells it", m, mark(4, 1))
}

func TestOrderDoesNotMatter(t *testing.T) {
	for seed := range int64(200) {
		r := rand.New(rand.NewSource(seed))
		c := crews()[seed%6]
		var all []telling
		for _, n := range c.Nodes {
			for seq := 1; seq <= 7; seq++ {
				if r.Intn(5) > 0 {
					all = append(all, telling{n, mark(seq, byte(r.Intn(4)/3))})
				}
			}
		}
		var first []api.Mark
		for round := range 8 {
			r.Shuffle(len(all), func(i, j int) { all[i], all[j] = all[j], all[i] })
			m := made(t, c, api.Mark{})
			for _, x := range all {
				vote(t, m, x.x, x.node)
			}
			if round == 0 {
				first = seen(m)
			} else if !slices.Equal(seen(m), first) {
				t.Fatalf("seed %d: another order: %v, not %v", seed, seen(m), first)
			}
		}
	}
}

// The chapter's examples.

func TestExamples(t *testing.T) {
	a, b, c := mark(4, 1), mark(4, 2), mark(8, 3)
	m := made(t, four(), api.Mark{})
	vote(t, m, a, 1, 2)
	known(t, "the first row", m, a)
	stable(t, "the first row", m, api.Mark{})
	vote(t, m, b, 3)
	is(t, "Vote", m.Vote(3, a), api.ErrOther)
	vote(t, m, a, 4)
	stable(t, "the second row", m, a)
	vote(t, m, c, 2, 1)
	known(t, "the last row", m, c)
	raise(t, m, a)
	hasOf(t, "the last row", m, 2, c)
	stable(t, "the last row", m, api.Mark{})
}
