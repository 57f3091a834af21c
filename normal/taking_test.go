package normal

import (
	"fmt"
	"testing"

	"bastide/api"
)

// P18.3

// goodNotes are one of each kind that a normal of the node 2 takes when it is new.
func goodNotes() []api.Note {
	return []api.Note{proposes(1, 0, 1, "a"), prepares(3, 0, 1, "a"), commits(3, 0, 1, "a"), tells(3, mark(4, 1)), hasRun(3, 1, "a")}
}

func TestTakeRefuses(t *testing.T) {
	s := begun(t, four(), 2, mark(0, 9))
	change := api.Change{Node: 3, View: 1, Marks: []api.Mark{{}}}
	head := api.Note{From: 3, Group: 1, Epoch: 1}
	others := []api.Note{
		{Kind: api.NoteWish, From: 31 + 'a'%3, Group: 1, Epoch: 1, Batch: batch("a")}, {Kind: api.NoteReply, From: 3, Group: 1, Epoch: 1, Node: 31},
		{Kind: api.NoteChange, From: 3, Group: 1, Epoch: 1, Change: change}, {Kind: api.NoteAck, From: 3, Group: 1, Epoch: 1, View: 1, Node: 4},
		{Kind: api.NoteNew, From: 3, Group: 1, Epoch: 1, View: 1, Changes: []api.Change{change}}, {Kind: api.NoteFetch, From: 3, Group: 1, Epoch: 1, Seq: 1},
		{Kind: api.NotePiece, From: 3, Group: 1, Epoch: 1, Seq: 1}, {Kind: api.NoteOrder, From: 3, Group: 1, Epoch: 1, Nodes: []int{1}},
		{Kind: api.NoteSealed, From: 3, Group: 1, Epoch: 1, Seq: 1}, {Kind: api.NoteLook, From: 31, Group: 1, Epoch: 1, Batch: batch("a")},
		{Kind: api.NoteBatch, From: 3, Group: 1, Epoch: 1, Batch: batch("a")}, head, {},
	}
	for _, kind := range []int{-1, 17, 1 << 32, 3 + 1<<32} {
		x := head
		x.Kind = kind
		others = append(others, x)
	}
	s.refusesNote(api.ErrArg, others...)
	for _, good := range goodNotes() {
		bad := []api.Note{good, good, good, good, good, good, good}
		bad[0].Seq, bad[1].Seq, bad[2].Node, bad[3].From, bad[4].Group, bad[5].Epoch, bad[6].Epoch = 0, api.MaxNumber+1, 1, 29, 3, -1, api.MaxEpoch+1
		s.refusesNote(api.ErrArg, bad...)
		// The wishes are of another epoch, then of the note's: ErrEpoch is told of what may be alone.
		x := good
		x.Epoch = 2
		if len(x.Batch) > 0 {
			s.refusesNote(api.ErrArg, x)
			x.Batch = batch("a")
			x.Batch[0].Epoch = 2
		}
		s.refusesNote(api.ErrEpoch, x)
		x.From = 9
		s.refusesNote(api.ErrEpoch, x)
		for _, from := range []int{2, 5, 28} {
			x := good
			x.From = from
			s.refusesNote(api.ErrCrew, x)
			if x.Kind == api.NotePropose || x.Kind == api.NotePrepare {
				x.View = 1
				s.refusesNote(api.ErrCrew, x)
			}
		}
		x = good
		x.Batch, x.Group = nil, 2
		s.refusesNote(api.ErrEpoch, x)
	}
}

func TestTakePropose(t *testing.T) {
	for seq := 11; seq <= 18; seq++ {
		s := begun(t, four(), 2, mark(10, 9))
		s.take(fmt.Sprintf("prepare 0.%d ab", seq), proposes(1, 0, seq, "ab"))
		s.take("", proposes(1, 0, seq, "ab"))
		s.knows("ab a", "ab")
		s.refusesNote(api.ErrOther, proposes(1, 0, seq, "a"), proposes(1, 0, seq, "ba"), proposes(1, 0, seq, ""))
		s.retells(fmt.Sprintf("prepare 0.%d ab, mark 10 9", seq))
		if q := s.n.Image().Q; len(q) != 1 || q[0] != stand(seq, 0, "ab") {
			t.Errorf("Q: %v", q)
		}
	}
	s := begun(t, four(), 2, mark(10, 9))
	s.refusesNote(api.ErrWindow, proposes(1, 0, 10, "a"), proposes(1, 0, 9, "a"), proposes(1, 0, 19, "a"), proposes(1, 0, api.MaxNumber, "a"))
}

func TestTakeProposeOfAnotherView(t *testing.T) {
	s := begun(t, four(), 3, mark(0, 9))
	s.refusesNote(api.ErrView, proposes(2, 0, 1, "a"), proposes(4, 0, 1, "a"), proposes(2, 1, 1, "a"), proposes(1, 1, 1, "a"), proposes(1, 4, 1, "a"), proposes(2, 0, 99, "a"))
	s.enter("", 5, mark(0, 9))
	s.refusesNote(api.ErrView, proposes(1, 0, 1, "a"), proposes(2, 1, 1, "a"), proposes(1, 4, 1, "a"), proposes(1, 5, 1, "a"), proposes(4, 5, 1, "a"), proposes(2, 9, 1, "a"))
	s.take("prepare 5.1 a", proposes(2, 5, 1, "a"))
	s.n.Stop()
	s.refusesNote(api.ErrView, proposes(2, 5, 1, "a"), proposes(2, 5, 2, "a"))
	// Its own view is one that it leads: nobody else proposes there.
	s.enter("", 6, mark(0, 9))
	s.refusesNote(api.ErrView, proposes(2, 6, 1, "a"), proposes(4, 6, 1, "a"))
}

// Behind another view the same is proposed anew, and prepared anew.
func TestTakeProposeInTheNextView(t *testing.T) {
	s := begun(t, four(), 3, mark(0, 9))
	s.take("prepare 0.1 a", proposes(1, 0, 1, "a"))
	s.enter("", 1, mark(0, 9))
	s.take("prepare 1.1 a", proposes(2, 1, 1, "a"))
	s.enter("", 4, mark(0, 9))
	s.take("prepare 4.1 b", proposes(1, 4, 1, "b"))
	if q := s.n.Image().Q; len(q) != 2 || q[0] != stand(1, 1, "a") || q[1] != stand(1, 4, "b") {
		t.Errorf("Q: %v", q)
	}
}

// The example of the chapter, in each order of the prepares and commits.
func TestNormalCase(t *testing.T) {
	s := begun(t, four(), 2, mark(0, 9))
	s.wish("", "ab")
	s.take("prepare 0.1 a", proposes(1, 0, 1, "a"))
	s.take("", commits(1, 0, 1, "a"), prepares(3, 0, 1, "b"))
	s.take("commit 0.1 a", prepares(4, 0, 1, "a"))
	s.waits(2)
	s.take("run 1 a", commits(3, 0, 1, "a"))
	s.waits(1)
	s.where(0, 1, true, false)
	s.take("", commits(4, 0, 1, "a"), proposes(1, 0, 1, "a"), commits(4, 0, 1, "a"))
	s.retells("prepare 0.1 a, commit 0.1 a, ran 1 a")
	s.wish("", "a")
	s.waits(2)

	s = begun(t, four(), 2, mark(0, 9))
	s.take("", commits(1, 0, 1, "a"), commits(3, 0, 1, "a"), commits(4, 0, 1, "a"), prepares(3, 0, 1, "a"), prepares(4, 0, 1, "a"))
	s.knows("a", "")
	s.take("prepare 0.1 a, commit 0.1 a, run 1 a", proposes(1, 0, 1, "a"))
}

// A leader needs 2f others that prepare, and most that commit; of its own it says the latter alone.
func TestNormalCaseOfALeader(t *testing.T) {
	s := begun(t, four(), 1, mark(0, 9))
	s.wish("propose 0.1 a", "a")
	s.take("", prepares(2, 0, 1, "a"), commits(2, 0, 1, "a"), commits(3, 0, 1, "a"), commits(4, 0, 1, "a"), prepares(4, 0, 1, "b"))
	s.take("commit 0.1 a, run 1 a", prepares(3, 0, 1, "a"))
	s.retells("propose 0.1 a, commit 0.1 a, ran 1 a")

	big := begun(t, crews()[4], 1, mark(0, 9))
	big.wish("propose 0.1 a", "a")
	big.take("", prepares(2, 0, 1, "a"), prepares(3, 0, 1, "a"), prepares(4, 0, 1, "a"))
	big.take("commit 0.1 a", prepares(7, 0, 1, "a"))
	big.take("", commits(2, 0, 1, "a"), commits(3, 0, 1, "a"), commits(5, 0, 1, "b"), commits(4, 0, 1, "a"))
	big.take("run 1 a", commits(6, 0, 1, "a"))
}

// Numbers are run in their order, one behind the other, though they are committed in any.
func TestRunsInOrder(t *testing.T) {
	s := begun(t, four(), 2, mark(0, 9))
	for seq := 4; seq >= 2; seq-- {
		letters := string(byte('a' + seq))
		s.take(fmt.Sprintf("prepare 0.%d %s, commit 0.%d %s", seq, letters, seq, letters), proposes(1, 0, seq, letters), prepares(3, 0, seq, letters), commits(3, 0, seq, letters), commits(4, 0, seq, letters))
	}
	s.take("prepare 0.1 -", proposes(1, 0, 1, ""))
	s.take("commit 0.1 -", prepares(4, 0, 1, ""), commits(4, 0, 1, ""))
	s.take("run 1 -, run 2 c, run 3 d, run 4 e", commits(1, 0, 1, ""))
	s.where(0, 4, true, false)
}

func TestTakeVotesRefuses(t *testing.T) {
	s := begun(t, four(), 2, mark(0, 9))
	s.enter("", 5, mark(0, 9))
	for _, view := range []int{0, 1, 4} {
		s.refusesNote(api.ErrView, prepares(3, view, 1, "a"), commits(3, view, 1, "a"), prepares(3, view, 99, "a"), commits(3, view, 99, "a"))
	}
	s.refusesNote(api.ErrView, prepares(1, 4, 1, "a"))
	s.refusesNote(api.ErrArg, prepares(3, 6, 1, "a"), prepares(1, 8, 99, "a"))
	s.refusesNote(api.ErrWindow, prepares(3, 5, 9, "a"), commits(3, 5, 9, "a"), prepares(3, 7, 9, "a"), commits(1, 8, 9, "a"))
	s.take("", prepares(3, 7, 1, "a"), commits(4, 7, 1, "a"), prepares(3, 5, 2, "a"), commits(4, 5, 2, "a"))
	s.refusesNote(api.ErrOther, prepares(3, 7, 1, "b"), commits(4, 7, 1, "b"), prepares(3, 5, 2, "b"), commits(4, 5, 2, "b"))
	s.refusesNote(api.ErrView, prepares(3, 5, 1, "a"), commits(4, 6, 1, "a"), prepares(3, 5, 1, "b"))
	s.refusesNote(api.ErrWindow, prepares(3, 7, 9, "a"), commits(4, 7, 9, "a"))
}

// Who is not active says nothing, but runs what the others commit; what it had not said it says in no other view.
func TestVotesWhenStopped(t *testing.T) {
	s := begun(t, four(), 2, mark(0, 9))
	s.take("prepare 0.1 a, prepare 0.2 b", proposes(1, 0, 1, "a"), proposes(1, 0, 2, "b"))
	s.n.Stop()
	s.take("", prepares(3, 0, 1, "a"), commits(1, 0, 1, "a"), commits(3, 0, 1, "a"))
	s.take("run 1 a", commits(4, 0, 1, "a"))
	s.take("", prepares(3, 0, 2, "b"), commits(1, 0, 2, "b"), commits(3, 0, 2, "b"))
	s.take("run 2 b", commits(4, 0, 2, "b"))
	s.where(0, 2, false, false)
	s.enter("", 1, mark(0, 9))
	if p := s.n.Image().P; len(p) != 2 || p[0] != stand(1, 0, "a") {
		t.Errorf("P: %v", p)
	}
}

// What others say of a later view counts once that is entered.
func TestVotesOfALaterView(t *testing.T) {
	s := begun(t, four(), 2, mark(0, 9))
	s.take("prepare 0.1 a", proposes(1, 0, 1, "a"))
	s.take("", prepares(1, 2, 1, "a"), prepares(4, 2, 1, "a"), commits(1, 2, 1, "a"), commits(3, 2, 1, "a"), commits(4, 2, 1, "b"))
	s.enter("prepare 2.1 a, commit 2.1 a, run 1 a", 2, mark(0, 9), picks(0, "a")...)
}

func TestTakeRan(t *testing.T) {
	s := begun(t, four(), 2, mark(0, 9))
	s.wish("", "abS")
	s.refusesNote(api.ErrRange, hasRun(3, 9, "a"), hasRun(3, 10, "a"), hasRun(3, api.MaxNumber, "a"))
	s.take("", hasRun(3, 8, "a"), hasRun(3, 1, "a"))
	// The first word counts.
	s.take("", hasRun(4, 1, "b"), hasRun(4, 1, "a"), hasRun(3, 1, "b"), hasRun(3, 1, "a"))
	s.where(0, 0, true, false)
	s.take("run 1 b", hasRun(1, 1, "b"))
	s.waits(2)
	s.refusesNote(api.ErrRange, hasRun(3, 1, "a"), hasRun(4, 1, "b"))
	s.take("", hasRun(3, 2, ""), hasRun(1, 3, "aS"), hasRun(4, 3, "aS"))
	s.take("run 2 -, run 3 aS", hasRun(4, 2, ""))
	s.waits(0)
	s.where(0, 3, true, true)
	s.retells("ran 1 b, ran 2 -, ran 3 aS")
}

// Of two digests that some others have run the lesser one goes ahead, whoever came first; and any of these ahead of what is committed.
func TestRunsWhatSomeHaveRun(t *testing.T) {
	less, more := "a", "b"
	if d, e := digest("a"), digest("b"); inOrder(d, e) > 0 {
		less, more = "b", "a"
	}
	for _, first := range []string{less, more} {
		second := map[string]string{less: more, more: less}[first]
		s := begun(t, crews()[4], 2, mark(0, 9))
		s.take("", hasRun(3, 2, first), hasRun(1, 2, first), hasRun(4, 2, first), hasRun(5, 2, second), hasRun(6, 2, second), hasRun(7, 2, second))
		s.take("run 1 x, run 2 "+less, hasRun(3, 1, "x"), hasRun(1, 1, "x"), hasRun(4, 1, "x"))
	}
	s := begun(t, four(), 2, mark(0, 9))
	s.take("prepare 0.2 a, commit 0.2 a", proposes(1, 0, 2, "a"), prepares(3, 0, 2, "a"), commits(3, 0, 2, "a"), commits(1, 0, 2, "a"), hasRun(1, 2, "c"), hasRun(3, 2, "c"))
	s.take("run 1 x, run 2 c", hasRunNotes(s, 1, "x")...)
	s.retells("prepare 0.2 a, commit 0.2 a, ran 1 x, ran 2 c")
}

// Behind a seal nothing is run; what is said is heard all the same.
func TestRunsNothingBehindASeal(t *testing.T) {
	s := begun(t, four(), 2, mark(0, 9))
	s.wish("", "Sb")
	s.take("", hasRun(1, 2, "b"), hasRun(3, 2, "b"))
	s.runs(1, "aS")
	s.where(0, 1, true, true)
	s.waits(1)
	s.take("prepare 0.2 b, commit 0.2 b", proposes(1, 0, 2, "b"), prepares(3, 0, 2, "b"), commits(1, 0, 2, "b"), commits(3, 0, 2, "b"), hasRun(4, 2, "b"))
	s.enter("", 1, mark(0, 9))
	s.where(1, 1, true, true)
	s.made("mark 1 1", mark(1, 1))
	s.told("", 1, mark(1, 1))
	s.told("", 3, mark(1, 1))
	s.low(mark(1, 1))
	s.installed("", mark(5, 1))
	s.where(1, 5, true, true)
}

// A seal may stand anywhere in a batch.
func TestEnds(t *testing.T) {
	for letters, ended := range map[string]bool{"S": true, "Sab": true, "abcS": true, "aSb": true, "abcd": false, "-": false} {
		s := begun(t, four(), 2, mark(0, 9))
		if letters == "-" {
			s.take("run 1 -", hasRunNotes(s, 1, "")...)
		} else {
			s.runs(1, letters)
		}
		s.where(0, 1, true, ended)
	}
}

// P18.4

func TestTold(t *testing.T) {
	s := begun(t, four(), 2, mark(4, 9))
	check := func(want api.Errno, from int, m api.Mark) {
		t.Helper()
		s.refuses(want, func() (Out, api.Errno) { return s.n.Told(from, m) })
	}
	for _, from := range []int{0, 5, -1, 28} {
		check(api.ErrCrew, from, mark(8, 1))
		check(api.ErrCrew, from, mark(-1, 1))
	}
	for _, seq := range noNumbers(5, api.MaxNumber) {
		check(api.ErrRange, 3, mark(seq, 1))
	}
	s.refusesNote(api.ErrRange, tells(3, mark(4, 9)), tells(3, mark(1, 9)))
	s.take("", tells(3, mark(8, 1)))
	check(api.ErrOther, 3, mark(8, 2))
	s.refusesNote(api.ErrOther, tells(3, mark(8, 2)))
	s.told("", 3, mark(8, 1))
	s.told("", 1, mark(8, 1))
	s.told("", 4, mark(8, 1))
	// It has not run so far: the low mark waits for that.
	s.low(mark(4, 9))
	s.runs(5, "a b c")
	s.low(mark(4, 9))
	s.runs(8, "d")
	s.low(mark(8, 1))
	s.retells("mark 8 1")
	s.where(0, 8, true, false)
}

// The replica itself may be told of, too; a note comes of Made alone.
func TestToldOfItself(t *testing.T) {
	s := begun(t, four(), 2, mark(0, 9))
	s.told("", 2, mark(8, 1))
	s.retells("mark 8 1")
}

func TestMade(t *testing.T) {
	s := begun(t, four(), 2, mark(4, 9))
	s.runs(5, "a b c d")
	check := func(want api.Errno, m api.Mark) {
		t.Helper()
		s.refuses(want, func() (Out, api.Errno) { return s.n.Made(m) })
	}
	for _, seq := range append(noNumbers(5, 8), 0, 1) {
		check(api.ErrRange, mark(seq, 1))
	}
	for seq := 5; seq <= 8; seq++ {
		s.made(fmt.Sprintf("mark %d 1", seq), mark(seq, 1))
		s.made(fmt.Sprintf("mark %d 1", seq), mark(seq, 1))
		check(api.ErrOther, mark(seq, 2))
	}
	s.told("", 1, mark(8, 1))
	s.told("", 3, mark(7, 1))
	s.low(mark(4, 9))
	s.told("", 1, mark(7, 1))
	s.low(mark(7, 1))
	check(api.ErrRange, mark(7, 1))
	s.told("", 3, mark(8, 1))
	s.low(mark(8, 1))
	check(api.ErrRange, mark(8, 1))
}

// One's own word may be the last one that was lacking.
func TestMadeIsStable(t *testing.T) {
	s := begun(t, four(), 1, mark(0, 9))
	s.wish("propose 0.1 a, propose 0.2 b, propose 0.3 c, propose 0.4 d, propose 0.5 e, propose 0.6 f, propose 0.7 g, propose 0.8 h", "abcdefghijk")
	s.runs(1, "a b c d")
	s.told("", 2, mark(4, 1))
	s.told("", 3, mark(4, 1))
	s.low(mark(0, 9))
	s.made("mark 4 1, propose 0.9 ijk", mark(4, 1))
	s.low(mark(4, 1))

	s = begun(t, four(), 1, mark(0, 9))
	s.wish("propose 0.1 a, propose 0.2 b, propose 0.3 c, propose 0.4 d, propose 0.5 e, propose 0.6 f, propose 0.7 g, propose 0.8 h", "abcdefghijk")
	s.runs(1, "a b c d")
	s.told("", 2, mark(4, 1))
	s.told("", 3, mark(4, 2))
	s.made("mark 4 1", mark(4, 1))
	s.low(mark(0, 9))
	s.told("propose 0.9 ijk", 4, mark(4, 1))
	s.low(mark(4, 1))

	s = begun(t, one(), 5, mark(0, 9))
	s.wish("propose 0.1 a, commit 0.1 a, run 1 a", "a")
	s.made("mark 1 1", mark(1, 1))
	s.low(mark(1, 1))
	s.retells("mark 1 1")
}

func TestInstalled(t *testing.T) {
	s := begun(t, four(), 2, mark(0, 9))
	s.take("prepare 0.1 a, prepare 0.6 f, prepare 0.8 h", proposes(1, 0, 1, "a"), proposes(1, 0, 6, "f"), proposes(1, 0, 8, "h"))
	s.take("", hasRun(1, 6, "f"), hasRun(3, 6, "f"), hasRun(3, 5, "c"), hasRun(1, 8, "d"))
	s.runs(1, "a b")
	s.made("mark 1 1", mark(1, 1))
	for _, seq := range noNumbers(3, api.MaxNumber-8) {
		s.refuses(api.ErrRange, func() (Out, api.Errno) { return s.n.Installed(mark(seq, 1)) })
	}
	s.wish("", "fx")
	s.told("", 4, mark(8, 1))
	// What waits at the next number is run at once.
	s.installed("run 6 f", mark(5, 2))
	s.where(0, 6, true, false)
	s.low(mark(5, 2))
	s.waits(1)
	s.knows("a b c d f h", "d f h")
	s.retells("prepare 0.6 f, prepare 0.8 h, mark 5 2, ran 6 f")
	s.take("prepare 0.13 m", proposes(1, 0, 13, "m"))
	s.installed("", mark(api.MaxNumber-8, 3))
	s.where(0, api.MaxNumber-8, true, false)
	s.low(mark(api.MaxNumber-8, 3))
	s.knows("d f h m", "")
	s.refuses(api.ErrRange, func() (Out, api.Errno) { return s.n.Installed(mark(api.MaxNumber-8, 3)) })
	s.take("prepare 0.9007199254740991 a", proposes(1, 0, api.MaxNumber, "a"))
}

// What is stable ahead of what was installed is forgotten; a leader proposes above it.
func TestInstalledOfALeader(t *testing.T) {
	s := begun(t, four(), 1, mark(0, 9))
	s.wish("propose 0.1 a, propose 0.2 b, propose 0.3 c, propose 0.4 d, propose 0.5 e, propose 0.6 f, propose 0.7 g, propose 0.8 h", "abcdefghi")
	// c to h stand at numbers to come; a and b, whose numbers were run, stand nowhere any more.
	s.installed("propose 0.9 abi", mark(2, 1))
	s.installed("propose 0.21 abcd, propose 0.22 efgh, propose 0.23 i", mark(20, 1))
	s.where(0, 20, true, false)
	s.installed("propose 0.24 abcd", mark(21, 1))
	s.wish("propose 0.25 j", "j")
}

// A mark above which there is no window is no low mark, though it is stable.
func TestTheLastNumbers(t *testing.T) {
	s := begun(t, four(), 2, mark(api.MaxNumber-8, 9))
	s.runs(api.MaxNumber-7, "a b c d e f g h")
	s.where(0, api.MaxNumber, true, false)
	for _, x := range []api.Mark{mark(api.MaxNumber-4, 1), mark(api.MaxNumber, 2)} {
		s.told("", 1, x)
		s.told("", 3, x)
		s.made(fmt.Sprintf("mark %d %d", x.Seq, x.Digest[31]), x)
		s.low(mark(api.MaxNumber-8, 9))
	}
	s.enter("", 1, mark(api.MaxNumber-8, 3))
	s.wish("", "x")
	s.refusesNote(api.ErrRange, hasRun(1, api.MaxNumber, "a"))
}

func TestLacks(t *testing.T) {
	s := begun(t, four(), 2, mark(0, 9))
	lacks := func(want api.Mark, is bool) {
		t.Helper()
		if m, ok := s.n.Lacks(); m != want || ok != is {
			t.Errorf("Lacks: %v, %v, not %v, %v", m, ok, want, is)
		}
	}
	lacks(api.Mark{}, false)
	s.told("", 1, mark(2, 1))
	lacks(api.Mark{}, false)
	s.told("", 3, mark(2, 1))
	lacks(mark(2, 1), true)
	s.told("", 3, mark(7, 5))
	s.told("", 4, mark(7, 6))
	lacks(mark(2, 1), true)
	s.told("", 1, mark(7, 6))
	lacks(mark(7, 6), true)
	s.runs(1, "a b c d e f")
	lacks(mark(7, 6), true)
	s.runs(7, "g")
	lacks(api.Mark{}, false)
	s.told("", 1, mark(40, 1))
	s.told("", 3, mark(40, 1))
	s.told("", 4, mark(40, 1))
	lacks(mark(40, 1), true)
	s.low(mark(0, 9))
	s.installed("", mark(30, 1))
	lacks(mark(40, 1), true)
	s.installed("", mark(40, 2))
	lacks(api.Mark{}, false)
	s.low(mark(40, 2))
}
