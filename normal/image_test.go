package normal

import (
	"fmt"
	"math"
	"reflect"
	"slices"
	"testing"

	"bastide/api"
	"bastide/ink"
	"bastide/note"
)

// P18.5

func TestStop(t *testing.T) {
	for self := 1; self <= 4; self++ {
		s := begun(t, four(), self, mark(0, 9))
		for range 2 {
			if e := s.n.Stop(); e != api.OK {
				t.Errorf("Stop: %d", e)
			}
			s.where(0, 0, false, false)
		}
		s.enter("", 1, mark(0, 9))
		s.where(1, 0, true, false)
	}
}

// badPicks are lists of picks that may not follow the low mark 4.
func badPicks() [][]api.Pick {
	change := func(do func(l []api.Pick)) []api.Pick {
		l := picks(4, "ab 0 -")
		do(l)
		return l
	}
	long := api.Pick{Seq: 5, Batch: batch("abcde")}
	return [][]api.Pick{
		picks(4, "a b c d e f g h i"), picks(3, "a"), picks(5, "a"), picks(0, "a"),
		change(func(l []api.Pick) { l[0].Seq = 4 }), change(func(l []api.Pick) { l[1].Seq = 5 }), change(func(l []api.Pick) { l[1].Seq = 7 }), change(func(l []api.Pick) { l[2].Seq = math.MinInt }),
		change(func(l []api.Pick) { l[0], l[1] = l[1], l[0] }),
		change(func(l []api.Pick) { l[0].Digest[31] ^= 1 }), change(func(l []api.Pick) { l[0].Digest = api.Digest{} }), change(func(l []api.Pick) { l[2].Digest[0] ^= 128 }),
		change(func(l []api.Pick) { l[1].Batch = batch("a") }), change(func(l []api.Pick) { l[0].Batch = batch("ba") }), change(func(l []api.Pick) { l[0].Batch = nil }),
		change(func(l []api.Pick) { l[0].Batch[1].Stamp = 0 }), change(func(l []api.Pick) { l[2].Batch = make([]api.Wish, 1) }), {long},
	}
}

func TestEnterRefuses(t *testing.T) {
	for _, view := range []int{0, 5, api.MaxView} {
		s := begun(t, four(), 2, mark(4, 9))
		if view > 0 {
			s.enter("", view, mark(4, 9))
		}
		s.runs(5, "a b")
		check := func(want api.Errno, view int, low api.Mark, l []api.Pick) {
			t.Helper()
			s.refuses(want, func() (Out, api.Errno) { return s.n.Enter(view, low, l) })
		}
		for _, bad := range append(noNumbers(view+1, api.MaxView), 0, 1<<21) {
			check(api.ErrView, bad, mark(4, 9), nil)
			check(api.ErrView, bad, mark(-1, 9), badPicks()[0])
		}
		if view == api.MaxView {
			continue
		}
		for _, seq := range noNumbers(0, api.MaxNumber-8) {
			check(api.ErrArg, view+1, mark(seq, 9), nil)
			check(api.ErrArg, api.MaxView, mark(seq, 9), []api.Pick{{Seq: seq + 1}})
		}
		for _, l := range badPicks() {
			check(api.ErrArg, view+1, mark(4, 9), l)
			check(api.ErrArg, view+1, mark(4, 9), append(picks(4, ""), l...))
		}
		check(api.ErrArg, view+1, mark(math.MaxInt, 9), []api.Pick{{Seq: math.MinInt}})
	}
}

func TestEnter(t *testing.T) {
	for view := 1; view <= 9; view++ {
		s := begun(t, four(), 2, mark(0, 9))
		s.take("prepare 0.1 a, commit 0.1 a", proposes(1, 0, 1, "a"), prepares(3, 0, 1, "a"))
		want := fmt.Sprintf("prepare %d.1 a, prepare %d.2 -, prepare %d.3 -, prepare %d.4 bc", view, view, view, view)
		leads := view%4 == 1
		if leads {
			want = ""
		}
		s.enter(want, view, mark(0, 1), picks(0, "a 0 - bc")...)
		s.where(view, 0, true, false)
		s.low(mark(0, 9))
		s.knows("a - bc b", "a - bc")
		what := map[bool]string{false: "prepare", true: "propose"}[leads]
		s.retells(fmt.Sprintf("%s %d.1 a, %s %d.2 -, %s %d.3 -, %s %d.4 bc", what, view, what, view, what, view, what, view))
		q := []api.Stand{stand(1, view, "a"), stand(2, view, ""), stand(3, view, ""), stand(4, view, "bc")}
		if m := s.n.Image(); !slices.Equal(m.Q, q) || len(m.P) != 1 || m.P[0] != stand(1, 0, "a") {
			t.Errorf("Q: %v, P: %v", m.Q, m.P)
		}
		// It prepares what it was told of these, and has said nothing of commits in this view.
		others := slices.DeleteFunc([]int{1, 3, 4}, func(n int) bool { return n == 1+view%4 })
		s.take(fmt.Sprintf("commit %d.1 a", view), prepares(others[0], view, 1, "a"), prepares(others[1], view, 1, "a"))
	}
}

// The front is the last pick's number: what waits goes behind it.
func TestEnterOfALeader(t *testing.T) {
	for _, row := range []struct {
		words, want string
		low         int
	}{
		{"", "propose 1.3 xyz", 0}, {"a", "propose 1.3 xyz", 0}, {"a b", "propose 1.3 xyz", 0}, {"a b c", "propose 1.4 xyz", 0}, {"a b c x d", "propose 1.6 yz", 0},
		{"x y z a", "propose 1.5 xy", 0}, {"a b c d e f g", "propose 1.8 xyz", 0}, {"a b c d e f g h", "", 0}, {"0 - 0", "propose 1.4 xyz", 0}, {"y xz", "propose 1.3 xyz", 0},
		{"", "propose 1.3 xyz", 1}, {"a", "propose 1.3 xyz", 1}, {"a b", "propose 1.4 xyz", 1}, {"", "propose 1.3 xyz", 2}, {"a b c d e f g h", "", 2}, {"a b c d e f g", "propose 1.10 xyz", 2},
		{"", "propose 1.4 xyz", 3}, {"a", "propose 1.5 xyz", 3}, {"a b c d e", "", 3}, {"", "", 8}, {"a b", "", 20},
	} {
		s := begun(t, four(), 2, mark(0, 9))
		s.runs(1, "i j")
		s.wish("", "xyz")
		s.enter(row.want, 1, mark(row.low, 1), picks(row.low, row.words)...)
		if row.low == 1 || row.low == 2 {
			s.low(mark(row.low, 1))
		} else {
			s.low(mark(0, 9))
		}
	}
}

// A low mark above what it has run is none of its own; picks out of its window are left out.
func TestEnterAhead(t *testing.T) {
	s := begun(t, four(), 3, mark(0, 9))
	s.runs(1, "a b c")
	s.enter("prepare 1.5 i, prepare 1.6 j, prepare 1.7 k, prepare 1.8 l", 1, mark(4, 1), picks(4, "i j k l m n")...)
	s.low(mark(0, 9))
	s.where(1, 3, true, false)
	s.knows("i j k l m n", "i j k l")
	s.installed("", mark(4, 2))
	s.take("prepare 1.9 m", proposes(2, 1, 9, "m"))

	// What is below the window is left out, too.
	s = begun(t, four(), 3, mark(6, 9))
	s.runs(7, "a")
	s.enter("prepare 1.7 d, prepare 1.8 e", 1, mark(3, 1), picks(3, "a b c d e")...)
	s.low(mark(6, 9))
	s.enter("prepare 3.8 e", 3, mark(7, 1), picks(7, "e")...)
	s.low(mark(7, 1))
	s.knows("a b d e", "e")
}

// A leader whose window ends below the last pick proposes nothing till its low mark rises.
func TestEnterAheadOfALeader(t *testing.T) {
	s := begun(t, four(), 2, mark(0, 9))
	s.wish("", "x")
	s.enter("", 1, mark(4, 1), picks(4, "a b c d e f")...)
	s.installed("", mark(2, 1))
	s.installed("propose 1.11 x", mark(4, 1))
}

// Picks of a new view may be all that was lacking.
func TestEnterGoesOn(t *testing.T) {
	s := begun(t, one(), 5, mark(0, 9))
	s.n.Stop()
	s.wish("", "ab")
	s.enter("commit 3.1 b, propose 3.2 a, commit 3.2 a, run 1 b, run 2 a", 3, mark(0, 9), picks(0, "b")...)
	s.waits(0)
	s.where(3, 2, true, false)
}

// Wishes that are picked may be of any group and epoch, as long as they may be.
func TestEnterLooksAtDigestsAlone(t *testing.T) {
	s := begun(t, four(), 2, mark(0, 9))
	l := []api.Wish{{Client: 34, Stamp: 1, Kind: api.WishQuery, Block: 1}}
	o, e := s.n.Enter(1, mark(0, 9), []api.Pick{{Seq: 1, Digest: digestOf(l), Batch: l}})
	if got, ok := s.n.Batch(digestOf(l)); e != api.OK || len(o.Notes) > 0 || !ok || !reflect.DeepEqual(got, l) {
		t.Errorf("%v, %d, %v", o, e, got)
	}
}

// P18.6

func TestRetell(t *testing.T) {
	s := begun(t, four(), 2, mark(0, 9))
	s.retells("")
	s = begun(t, four(), 2, mark(4, 9))
	s.retells("mark 4 9")
	s.take("prepare 0.8 c, prepare 0.6 a, prepare 0.12 -, commit 0.8 c", proposes(1, 0, 8, "c"), proposes(1, 0, 6, "a"), proposes(1, 0, 12, ""), prepares(4, 0, 8, "c"))
	s.runs(5, "i j k l")
	s.made("mark 8 2", mark(8, 2))
	s.made("mark 6 1", mark(6, 1))
	s.told("", 1, mark(7, 1))
	all := "mark 4 9, mark 6 1, mark 8 2, ran 5 i, ran 6 j, ran 7 k, ran 8 l"
	s.retells("prepare 0.6 a, prepare 0.8 c, commit 0.8 c, prepare 0.12 -, " + all)
	s.n.Stop()
	s.retells(all)
	s.enter("prepare 3.6 a", 3, mark(5, 5), picks(5, "a")...)
	s.retells("prepare 3.6 a, mark 5 5, mark 6 1, mark 8 2, ran 6 j, ran 7 k, ran 8 l")
	s.enter("", 5, mark(6, 7), picks(6, "b")...)
	s.take("commit 5.7 b", prepares(1, 5, 7, "b"), prepares(4, 5, 7, "b"))
	s.retells("propose 5.7 b, commit 5.7 b, mark 6 7, mark 8 2, ran 7 k, ran 8 l")
}

// What was retold is taken by one that lost all the notes, and it comes as far.
func TestRetellIsHeard(t *testing.T) {
	s := begun(t, four(), 1, mark(0, 9))
	s.wish("propose 0.1 a, propose 0.2 b", "ab")
	late := begun(t, four(), 3, mark(0, 9))
	late.take("prepare 0.1 a, prepare 0.2 b", s.n.Retell()...)
	s.take("", late.n.Retell()...)
	s.take("commit 0.1 a, commit 0.2 b", prepares(4, 0, 1, "a"), prepares(4, 0, 2, "b"))
	late.take("commit 0.1 a", prepares(2, 0, 1, "a"))
	late.take("", s.n.Retell()...)
	late.take("run 1 a", commits(2, 0, 1, "a"))
}

func TestChange(t *testing.T) {
	s := begun(t, four(), 2, mark(4, 9))
	is := func(want api.Change) {
		t.Helper()
		c := s.n.Change(want.View)
		if c.Node != want.Node || c.View != want.View || c.Low != want.Low || !slices.Equal(c.Marks, want.Marks) || !slices.Equal(c.P, want.P) || !slices.Equal(c.Q, want.Q) {
			t.Errorf("%v, not %v", c, want)
		}
		if _, e := note.Change(c); e != api.OK {
			t.Errorf("no change: %v", c)
		}
	}
	is(api.Change{Node: 2, View: 1, Low: 4, Marks: []api.Mark{mark(4, 9)}})
	s.take("prepare 0.8 c, prepare 0.6 a, commit 0.8 c", proposes(1, 0, 8, "c"), proposes(1, 0, 6, "a"), prepares(4, 0, 8, "c"))
	s.enter("prepare 3.5 x, prepare 3.6 b", 3, mark(0, 1), picks(0, "i j k l x b")...)
	s.runs(5, "x b c d e f")
	own := []api.Mark{mark(4, 9)}
	for seq := 5; seq <= 8; seq++ {
		s.made(fmt.Sprintf("mark %d 1", seq), mark(seq, 1))
		own = append(own, mark(seq, 1))
		is(api.Change{Node: 2, View: 4 + seq, Low: 4, Marks: own, P: []api.Stand{stand(8, 0, "c")}, Q: []api.Stand{stand(5, 3, "x"), stand(6, 0, "a"), stand(6, 3, "b"), stand(8, 0, "c")}})
	}
	// A fifth one of its own has the first one forgotten.
	s.made("mark 10 2", mark(10, 2))
	is(api.Change{Node: 2, View: api.MaxView, Low: 4, Marks: append([]api.Mark{mark(4, 9)}, mark(6, 1), mark(7, 1), mark(8, 1), mark(10, 2)), P: []api.Stand{stand(8, 0, "c")}, Q: []api.Stand{stand(5, 3, "x"), stand(6, 0, "a"), stand(6, 3, "b"), stand(8, 0, "c")}})
	s.told("", 1, mark(8, 1))
	s.told("", 3, mark(8, 1))
	is(api.Change{Node: 2, View: 4, Low: 8, Marks: []api.Mark{mark(8, 1), mark(10, 2)}})
}

// P18.7

func TestImage(t *testing.T) {
	s := begun(t, four(), 2, mark(4, 9))
	s.wish("", "abcd")
	s.take("prepare 0.8 c, commit 0.8 c", proposes(1, 0, 8, "c"), prepares(4, 0, 8, "c"))
	s.runs(5, "b S")
	s.take("", hasRun(3, 7, "e"), proposes(1, 0, 8, "c"))
	s.made("mark 6 1", mark(6, 1))
	s.enter("prepare 2.8 ab, prepare 2.9 -", 2, mark(7, 1), picks(7, "ab 0")...)
	s.n.Stop()
	want := Image{
		View: 2, Low: mark(4, 9), Own: []api.Mark{mark(6, 1)}, P: []api.Stand{stand(8, 0, "c")}, Q: []api.Stand{stand(8, 0, "c"), stand(8, 2, "ab"), stand(9, 2, "")},
		Ran: 6, Done: []api.Mark{{Seq: 5, Digest: digest("b")}, {Seq: 6, Digest: digest("S")}}, Ended: true,
	}
	for _, letters := range []string{"b", "S", "c", "ab", ""} {
		want.Batches = append(want.Batches, Batch{digest(letters), batch(letters)})
	}
	slices.SortFunc(want.Batches, func(a, b Batch) int { return slices.Compare(a.Digest[:], b.Digest[:]) })
	if m := s.n.Image(); !reflect.DeepEqual(m, want) {
		t.Errorf("%v, not %v", m, want)
	}
	again := s.again(want)
	if m := again.n.Image(); !reflect.DeepEqual(m, want) {
		t.Errorf("restored: %v, not %v", m, want)
	}
	again.waits(0)
	again.knows("a b S c e ab -", "b S c ab -")
}

// A normal that goes on from its image says what it said, and knows nothing that others said.
func TestRestore(t *testing.T) {
	s := begun(t, four(), 2, mark(0, 9))
	s.wish("", "xyz")
	s.take("prepare 0.1 a, commit 0.1 a, prepare 0.2 b, prepare 0.4 d", proposes(1, 0, 1, "a"), prepares(3, 0, 1, "a"), proposes(1, 0, 2, "b"), commits(1, 0, 1, "a"), proposes(1, 0, 4, "d"), hasRun(3, 1, "a"))
	said := "prepare 0.1 a, commit 0.1 a, prepare 0.2 b, prepare 0.4 d"
	s.retells(said)
	s = s.again(s.n.Image())
	s.retells(said)
	s.waits(0)
	s.where(0, 0, true, false)
	s.take("", proposes(1, 0, 1, "a"), proposes(1, 0, 2, "b"))
	s.refusesNote(api.ErrOther, proposes(1, 0, 1, "b"))
	// One other prepare is enough, as it prepares itself; it commits what it prepared, and says so no more.
	s.take("", prepares(4, 0, 1, "a"), commits(1, 0, 1, "a"))
	s.take("run 1 a", commits(4, 0, 1, "a"))
	s.take("commit 0.2 b", prepares(3, 0, 2, "b"))
	s.take("", hasRun(4, 2, "b"))
	s.take("run 2 b", hasRun(3, 2, "b"))
	s = s.again(s.n.Image())
	s.where(0, 2, true, false)
	s.retells("prepare 0.1 a, commit 0.1 a, prepare 0.2 b, commit 0.2 b, prepare 0.4 d, ran 1 a, ran 2 b")
}

// A leader does not prepare; it proposes behind what it proposed, and behind what it has run.
func TestRestoreOfALeader(t *testing.T) {
	s := begun(t, four(), 1, mark(0, 9))
	s.wish("propose 0.1 a, propose 0.2 b, propose 0.3 c", "abc")
	s.take("commit 0.1 a", prepares(3, 0, 1, "a"), prepares(2, 0, 1, "a"))
	s = s.again(s.n.Image())
	s.retells("propose 0.1 a, commit 0.1 a, propose 0.2 b, propose 0.3 c")
	s.take("", prepares(3, 0, 2, "b"))
	s.take("commit 0.2 b", prepares(4, 0, 2, "b"))
	// What it proposed stands, though it does not wait any more.
	s.wish("propose 0.4 d", "abcd")
	s.runs(1, "a b c d")
	s.runs(5, "x y")
	s = s.again(s.n.Image())
	s.wish("propose 0.7 g", "g")
	s = begun(t, four(), 1, mark(20, 9)).again(begun(t, four(), 1, mark(20, 9)).n.Image())
	s.wish("propose 0.21 a", "a")
}

// What was proposed in an older view is neither prepared nor committed in this one.
func TestRestoreInALaterView(t *testing.T) {
	for _, active := range []bool{true, false} {
		s := begun(t, four(), 3, mark(0, 9))
		s.take("prepare 0.1 a, commit 0.1 a, prepare 0.2 b, commit 0.2 b, prepare 0.7 e", proposes(1, 0, 1, "a"), prepares(2, 0, 1, "a"), proposes(1, 0, 2, "b"), prepares(2, 0, 2, "b"), proposes(1, 0, 7, "e"))
		s.enter("prepare 1.1 a", 1, mark(0, 9), picks(0, "a")...)
		m := s.n.Image()
		m.Active = active
		s = s.again(m)
		s.where(1, 0, active, false)
		s.refusesNote(api.ErrView, prepares(2, 0, 1, "a"))
		if active {
			s.retells("prepare 1.1 a")
			s.take("prepare 1.2 c", proposes(2, 1, 2, "c"))
			s.take("commit 1.1 a", prepares(4, 1, 1, "a"))
		} else {
			s.retells("")
			s.refusesNote(api.ErrView, proposes(2, 1, 2, "c"))
			s.take("", prepares(4, 1, 1, "a"))
		}
		s.wish("", "d")
		s.enter("propose 2.1 d", 2, mark(0, 9))
	}
}

func TestRestoreOfOne(t *testing.T) {
	s := begun(t, one(), 5, mark(0, 9))
	s.wish("propose 0.1 a, commit 0.1 a, propose 0.2 b, commit 0.2 b, run 1 a, run 2 b", "ab")
	s.made("mark 1 1", mark(1, 1))
	s = s.again(s.n.Image())
	s.retells("propose 0.2 b, commit 0.2 b, mark 1 1, ran 2 b")
	s.wish("propose 0.3 c, commit 0.3 c, run 3 c", "c")
}

// goodImage is one with something of each.
func goodImage() Image {
	return Image{
		View: 3, Active: true, Low: mark(4, 9), Own: []api.Mark{mark(5, 1), mark(8, 2), mark(9, 2), mark(20, 1)},
		P: []api.Stand{stand(6, 1, "a"), stand(12, 3, "b")}, Q: []api.Stand{stand(5, 0, ""), stand(5, 1, "c"), stand(6, 2, "a"), stand(12, 3, "b")},
		Ran: 6, Done: []api.Mark{{Seq: 5, Digest: digest("c")}, {Seq: 6, Digest: digest("d")}}, Batches: inBatches("", "a", "b", "c", "d"),
	}
}

// inBatches are batches by rising digests.
func inBatches(letters ...string) []Batch {
	var l []Batch
	for _, x := range letters {
		l = append(l, Batch{digest(x), batch(x)})
	}
	slices.SortFunc(l, func(a, b Batch) int { return slices.Compare(a.Digest[:], b.Digest[:]) })
	return l
}

func TestRestoreTakes(t *testing.T) {
	for i, change := range []func(m *Image){
		func(m *Image) {}, func(m *Image) { m.View = 0 }, func(m *Image) { m.View = api.MaxView }, func(m *Image) { m.Active = false }, func(m *Image) { m.Ended = true },
		func(m *Image) { m.Own = nil }, func(m *Image) { m.Own = m.Own[1:] }, func(m *Image) { m.Own[3].Seq = api.MaxNumber }, func(m *Image) { m.P = nil }, func(m *Image) { m.Low.Digest = api.Digest{} },
		func(m *Image) { m.Batches = nil }, func(m *Image) { m.Batches = m.Batches[1:4] }, func(m *Image) { m.Q, m.Batches = nil, inBatches("d", "c") },
		func(m *Image) { m.Ran, m.Done, m.Batches = 4, nil, inBatches("", "a", "b", "c") }, func(m *Image) { m.Done[1].Digest = m.Done[0].Digest; m.Batches = inBatches("", "a", "b", "c") },
		func(m *Image) {
			m.Ran = 12
			for seq := 7; seq <= 12; seq++ {
				m.Done = append(m.Done, mark(seq, byte(seq)))
			}
		},
		func(m *Image) { m.P[0].View = api.MaxView },
	} {
		m := goodImage()
		change(&m)
		n, e := Restore(ink.New(), four(), 2, 1, 1, m)
		if n == nil || e != api.OK {
			t.Errorf("row %d: %d", i, e)
			continue
		}
		if got := n.Image(); fmt.Sprint(got) != fmt.Sprint(m) {
			t.Errorf("row %d: %v, not %v", i, got, m)
		}
	}
}

func TestRestoreRefuses(t *testing.T) {
	swap := func(l []Batch) { l[1], l[2] = l[2], l[1] }
	for i, change := range []func(m *Image){
		func(m *Image) { m.View = -1 }, func(m *Image) { m.View = api.MaxView + 1 }, func(m *Image) { m.View = math.MinInt },
		func(m *Image) { m.Own[0].Seq = 4 }, func(m *Image) { m.Own[0].Seq = -1 }, func(m *Image) { m.Own[3].Seq = api.MaxNumber + 1 }, func(m *Image) { m.Own[1] = m.Own[0] }, func(m *Image) { m.Own[1].Seq = 5 },
		func(m *Image) { m.Own[1], m.Own[2] = m.Own[2], m.Own[1] }, func(m *Image) { m.Own = append(m.Own, mark(21, 1)) }, func(m *Image) { m.Own = slices.Insert(m.Own, 2, m.Own[1]) },
		func(m *Image) { m.P[0].Seq = 4 }, func(m *Image) { m.P[1].Seq = 13 }, func(m *Image) { m.P[0], m.P[1] = m.P[1], m.P[0] }, func(m *Image) { m.P[0].View = -1 }, func(m *Image) { m.P[1].View = api.MaxView + 1 },
		func(m *Image) { m.Q[0].Seq = 4 }, func(m *Image) { m.Q[3].Seq = 13 }, func(m *Image) { m.Q[0], m.Q[1] = m.Q[1], m.Q[0] }, func(m *Image) { m.Q[1].Digest = m.Q[0].Digest },
		func(m *Image) {
			m.Q = slices.Insert(m.Q, 2, stand(5, 2, "d"), stand(5, 2, "e"), stand(5, 3, "f"))
			slices.SortFunc(m.Q[2:4], func(a, b api.Stand) int { return slices.Compare(a.Digest[:], b.Digest[:]) })
		},
		func(m *Image) { m.Ran = 5 }, func(m *Image) { m.Ran = 7 }, func(m *Image) { m.Ran, m.Done = 3, nil }, func(m *Image) { m.Ran = -1 }, func(m *Image) { m.Ran = math.MinInt }, func(m *Image) { m.Ran = math.MaxInt },
		func(m *Image) {
			m.Ran = 13
			for seq := 7; seq <= 13; seq++ {
				m.Done = append(m.Done, mark(seq, 1))
			}
		},
		func(m *Image) { m.Done = nil }, func(m *Image) { m.Done = m.Done[:1] }, func(m *Image) { m.Done = append(m.Done, mark(7, 1)) }, func(m *Image) { m.Done[0].Seq = 4 }, func(m *Image) { m.Done[1].Seq = 5 },
		func(m *Image) { m.Done[1].Seq = 7 }, func(m *Image) { m.Done[0], m.Done[1] = m.Done[1], m.Done[0] },
		func(m *Image) { swap(m.Batches) }, func(m *Image) { m.Batches[1] = m.Batches[0] }, func(m *Image) { m.Batches[2].Digest[31] ^= 1 }, func(m *Image) { m.Batches[0].Wishes = batch("ef") },
		func(m *Image) { m.Batches = inBatches("", "a", "b", "c", "d", "e") }, func(m *Image) { m.Batches = slices.Insert(m.Batches, 1, m.Batches[0]) },
		func(m *Image) { m.Q, m.P, m.Batches = m.Q[:2], nil, inBatches("c", "d", "", "b") }, func(m *Image) { m.Batches = inBatches("a"); m.Batches[0].Wishes[0].Stamp = 0 },
		func(m *Image) { m.Batches = inBatches("a"); m.Batches[0].Wishes = batch("abcde") },
		func(m *Image) { m.Done[0].Digest, m.Batches = api.Digest{}, []Batch{{Wishes: batch("abcde")}} },
		func(m *Image) { m.Done[0].Digest, m.Batches = api.Digest{}, []Batch{{}} },
	} {
		m := goodImage()
		change(&m)
		if n, e := Restore(ink.New(), four(), 2, 1, 1, m); n != nil || e != api.ErrArg {
			t.Errorf("row %d: %v, %d", i, n, e)
		}
	}
}

// An image that no normal has may be taken all the same; nothing that stands in it is contradicted.
func TestRestoreOfOddImages(t *testing.T) {
	// What was proposed there in a greater view bars the leader's number.
	m := Image{View: 1, Active: true, Low: mark(0, 9), Q: []api.Stand{stand(2, 3, "a")}, Batches: inBatches("a")}
	s := begun(t, four(), 2, mark(0, 9)).again(m)
	s.retells("")
	s.wish("propose 1.1 b", "bc")
	s.waits(2)
	s.enter("prepare 2.1 e", 2, mark(0, 9), picks(0, "e f")...)
	s.knows("a b e f", "a b e")
	// A leader that does not know what it proposed can't tell it again.
	m = Image{View: 1, Active: true, Low: mark(0, 9), Q: []api.Stand{stand(2, 1, "a")}, Ran: 1, Done: []api.Mark{{Seq: 1, Digest: digest("b")}}}
	s = begun(t, four(), 2, mark(0, 9)).again(m)
	s.retells("")
	s.wish("propose 1.3 a", "a")
	// Nor is it run; once it is known, it is.
	s = begun(t, one(), 5, mark(0, 9)).again(Image{Active: true, Low: mark(0, 9), P: []api.Stand{stand(1, 0, "a")}, Q: []api.Stand{stand(1, 0, "a")}})
	s.wish("propose 0.2 b, commit 0.2 b", "b")
	s.enter("commit 1.1 a, run 1 a, run 2 b", 1, mark(0, 9), picks(0, "a")...)
}

// P18.8

// spoil writes over everything that a list of wishes has, in its spare room, too.
func spoil(l []api.Wish) {
	l = l[:cap(l)]
	for i := range l {
		data, next := l[i].Data[:cap(l[i].Data)], l[i].Next[:cap(l[i].Next)]
		for j := range data {
			data[j] = 0xEE
		}
		for j := range next {
			next[j] = -5
		}
		l[i].Stamp, l[i].Data, l[i].Next = -5, nil, nil
	}
}

func spoilOut(o Out) {
	for _, x := range o.Notes {
		spoil(x.Batch)
	}
	for _, r := range o.Runs {
		spoil(r.Batch)
	}
}

func spoilImage(m Image) {
	for _, x := range m.Batches {
		spoil(x.Wishes)
	}
	clear(m.Own[:cap(m.Own)])
	clear(m.P[:cap(m.P)])
	clear(m.Q[:cap(m.Q)])
	clear(m.Done[:cap(m.Done)])
	clear(m.Batches[:cap(m.Batches)])
}

func TestNewMemory(t *testing.T) {
	c := one()
	n, _ := New(ink.New(), c, 5, 1, 1, mark(0, 9))
	c.Nodes[0] = 7
	s := &scene{t, one(), 5, n}
	for _, letters := range []string{"a", "S"} {
		w := batch(letters)
		o, e := n.Wish(w[0])
		s.comes(map[string]string{"a": "propose 0.1 a, commit 0.1 a, run 1 a", "S": "propose 0.2 S, commit 0.2 S, run 2 S"}[letters], o, e)
		if !reflect.DeepEqual(w, batch(letters)) {
			t.Error("Wish changed its wish")
		}
		// A list of one answer shares nothing with another one, nor with what was handed in.
		spoil(o.Notes[0].Batch)
		s.comes(map[string]string{"a": "run 1 a", "S": "run 2 S"}[letters], Out{Runs: o.Runs}, e)
		spoilOut(o)
		spoil(w)
	}
	want := seen(n)
	for range 2 {
		spoilImage(n.Image())
		for _, x := range n.Retell() {
			spoil(x.Batch)
		}
		l, _ := n.Batch(digest("S"))
		spoil(l)
		x := n.Change(9)
		clear(x.Marks[:cap(x.Marks)])
		clear(x.P[:cap(x.P)])
		clear(x.Q[:cap(x.Q)])
		if seen(n) != want {
			t.Fatal("what was answered is kept")
		}
	}
}

func TestHandedInIsNotKept(t *testing.T) {
	s := begun(t, four(), 2, mark(0, 9))
	for _, x := range []api.Note{proposes(1, 0, 2, "aS"), hasRun(3, 1, "bS"), hasRun(4, 1, "bS")} {
		was := fmt.Sprint(x)
		x.Batch = append(make([]api.Wish, 0, 9), x.Batch...)
		o, e := s.n.Take(x)
		if e != api.OK || fmt.Sprint(x) != was {
			t.Errorf("%d, or Take changed its note", e)
		}
		spoilOut(o)
		spoil(x.Batch)
	}
	s.knows("aS bS", "aS bS")
	s.retells("prepare 0.2 aS, ran 1 bS")
	l := picks(0, "ab cdS -")
	s.enter("", 1, mark(0, 9), l...)
	for i, p := range l {
		spoil(p.Batch)
		l[i] = api.Pick{}
	}
	s.retells("propose 1.1 ab, propose 1.2 cdS, propose 1.3 -, ran 1 bS")
	// Its wishes are as they were handed in, too.
	s = begun(t, four(), 2, mark(0, 9))
	for _, w := range batch("xS") {
		o, e := s.n.Wish(w)
		s.comes("", o, e)
		spoil([]api.Wish{w})
	}
	s.enter("propose 1.1 xS", 1, mark(0, 9))
	m := goodImage()
	s = s.again(m)
	if !reflect.DeepEqual(m, goodImage()) {
		t.Error("Restore changed its image")
	}
	spoilImage(m)
	if got := s.n.Image(); !reflect.DeepEqual(got, goodImage()) {
		t.Errorf("what was handed in is kept: %v", got)
	}
}
