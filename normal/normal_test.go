package normal

import (
	"testing"

	"bastide/api"
	"bastide/ink"
)

// P18.1

func TestNew(t *testing.T) {
	for _, c := range crews() {
		for _, self := range c.Nodes {
			for _, low := range []int{0, 1, 4, 1 << 32, api.MaxNumber - 8} {
				for group := range 3 {
					for _, epoch := range []int{0, 1, 2, api.MaxEpoch} {
						n, e := New(ink.New(), c, self, group, epoch, mark(low, 7))
						if n == nil || e != api.OK {
							t.Fatalf("New: %d", e)
						}
						s := &scene{t, c, self, n}
						s.where(0, low, true, false)
						s.waits(0)
						s.low(mark(low, 7))
						if m := n.Image(); len(m.Own)+len(m.P)+len(m.Q)+len(m.Done)+len(m.Batches) > 0 || m.View != 0 || !m.Active || m.Ran != low || m.Ended {
							t.Errorf("Image: %v", m)
						}
						if _, ok := n.Lacks(); ok {
							t.Error("a new one lacks something")
						}
					}
				}
			}
		}
	}
}

func TestNewRefuses(t *testing.T) {
	book, c := ink.New(), four()
	type args struct {
		book               *ink.Book
		crew               api.Crew
		self, group, epoch int
		low                api.Mark
		want               api.Errno
	}
	rows := []args{
		{nil, c, 1, 1, 1, api.Mark{}, api.ErrNil}, {&ink.Book{}, c, 1, 1, 1, api.Mark{}, api.ErrNil}, {nil, api.Crew{}, 9, -1, -1, mark(-1, 0), api.ErrNil},
		{book, api.Crew{}, 0, 1, 1, api.Mark{}, api.ErrCrew}, {book, api.Crew{Faults: 1, Nodes: []int{1, 2, 3}}, 1, 1, 1, api.Mark{}, api.ErrCrew},
		{book, api.Crew{Faults: 1, Nodes: []int{2, 1, 3, 4}}, 1, 1, 1, api.Mark{}, api.ErrCrew}, {book, api.Crew{Nodes: []int{29}}, 29, 1, 1, api.Mark{}, api.ErrCrew},
		{book, c, 5, 1, 1, api.Mark{}, api.ErrCrew}, {book, c, 0, 1, 1, api.Mark{}, api.ErrCrew}, {book, c, -1, 1, 1, api.Mark{}, api.ErrCrew},
		{book, c, 5, 3, -1, mark(-1, 0), api.ErrCrew}, {book, c, 1, -1, 1, mark(-1, 0), api.ErrArg}, {book, c, 1, 1, -1, mark(-1, 0), api.ErrArg},
	}
	for _, x := range noNumbers(0, 2) {
		rows = append(rows, args{book, c, 1, x, 1, api.Mark{}, api.ErrArg})
	}
	for _, x := range noNumbers(0, api.MaxEpoch) {
		rows = append(rows, args{book, c, 1, 1, x, api.Mark{}, api.ErrArg})
	}
	for _, x := range noNumbers(0, api.MaxNumber-8) {
		rows = append(rows, args{book, c, 1, 1, 1, mark(x, 0), api.ErrRange})
	}
	for i, x := range rows {
		if n, e := New(x.book, x.crew, x.self, x.group, x.epoch, x.low); n != nil || e != x.want {
			t.Errorf("row %d: New: %v, %d", i, n, e)
		}
		if n, e := Restore(x.book, x.crew, x.self, x.group, x.epoch, Image{Low: x.low, Ran: x.low.Seq, View: -1}); n != nil || e != x.want {
			t.Errorf("row %d: Restore: %v, %d", i, n, e)
		}
	}
	if book.Len() != 0 || book.Asked() != 0 {
		t.Error("New noted something")
	}
}

func TestNone(t *testing.T) {
	var none *Normal
	for what, n := range map[string]*Normal{"nil": none, "a zero one": {}} {
		s := &scene{t, four(), 1, n}
		for _, w := range []api.Wish{wishOf('a'), {}} {
			s.refuses(api.ErrNil, func() (Out, api.Errno) { return n.Wish(w) })
		}
		s.refusesNote(api.ErrNil, api.Note{}, proposes(2, 1, 1, "a"), prepares(2, 0, 1, "a"), commits(2, 0, 1, "a"), tells(2, mark(4, 1)), hasRun(2, 1, "a"))
		for _, m := range []api.Mark{{}, mark(4, 1), mark(-1, 1)} {
			s.refuses(api.ErrNil, func() (Out, api.Errno) { return n.Told(2, m) })
			s.refuses(api.ErrNil, func() (Out, api.Errno) { return n.Made(m) })
			s.refuses(api.ErrNil, func() (Out, api.Errno) { return n.Installed(m) })
			s.refuses(api.ErrNil, func() (Out, api.Errno) { return n.Enter(m.Seq, m, nil) })
		}
		if e := n.Stop(); e != api.ErrNil {
			t.Errorf("%s: Stop: %d", what, e)
		}
		s.where(0, 0, false, false)
		s.waits(0)
		s.retells("")
		s.knows("- a", "")
		if m := n.Image(); seen(n) != seen(nil) || len(m.Batches) > 0 || m.Active {
			t.Errorf("%s: Image: %v", what, m)
		}
		if c := n.Change(1); c.Node != 0 || c.View != 0 || c.Low != 0 || len(c.Marks)+len(c.P)+len(c.Q) > 0 {
			t.Errorf("%s: Change: %v", what, c)
		}
		if m, ok := n.Lacks(); ok || m != (api.Mark{}) {
			t.Errorf("%s: Lacks: %v", what, m)
		}
	}
}

// A batch is known as long as it stands in Q, was run above the low mark, or was said to have been run at a number to come.
func TestBatch(t *testing.T) {
	s := begun(t, four(), 2, mark(0, 9))
	s.take("prepare 0.1 a", proposes(1, 0, 1, "a"))
	s.take("prepare 0.5 -", proposes(1, 0, 5, ""))
	s.take("", hasRun(3, 2, "b"), hasRun(4, 2, "c"), hasRun(4, 3, "d"))
	s.knows("a b c d e - ab", "a b c d -")
	s.refusesNote(api.ErrOther, proposes(1, 0, 1, "e"))
	s.refusesNote(api.ErrWindow, proposes(1, 0, 9, "e"))
	s.refusesNote(api.ErrRange, hasRun(3, 9, "e"))
	s.take("", hasRun(3, 2, "e"))
	s.knows("a b c d e -", "a b c d -")
	s.runs(1, "e")
	s.knows("a b c d e -", "a b c d e -")
	s.take("run 2 b", hasRun(1, 2, "b"))
	s.knows("a b c d e -", "a b d e -")
	s.take("run 3 d", hasRun(1, 3, "d"))
	s.runs(4, "f")
	s.made("mark 4 1", mark(4, 1))
	s.told("", 1, mark(4, 1))
	s.knows("a b c d e f -", "a b d e f -")
	s.told("", 3, mark(4, 1))
	s.low(mark(4, 1))
	s.knows("a b c d e f -", "-")
	s.take("", hasRun(1, 7, "a"))
	s.knows("a -", "a -")
	s.installed("", mark(7, 1))
	s.knows("a -", "")
}

// A fifth proposal at a number has the oldest one forgotten, and its batch, unless that is known otherwise.
func TestBatchGoesWithTheOldestProposal(t *testing.T) {
	s := begun(t, four(), 2, mark(0, 9))
	s.take("prepare 0.1 a", proposes(1, 0, 1, "a"))
	for i, letters := range []string{"b", "c", "d"} {
		s.enter("prepare "+[]string{"2.1 b", "3.1 c", "4.1 d"}[i], 2+i, mark(0, 9), picks(0, letters)...)
	}
	s.knows("a b c d e", "a b c d")
	s.enter("", 5, mark(0, 9), picks(0, "e")...)
	s.knows("a b c d e", "b c d e")
	s.take("", hasRun(3, 4, "b"))
	s.enter("prepare 6.1 f", 6, mark(0, 9), picks(0, "f")...)
	s.knows("a b c d e f", "b c d e f")
	s.enter("prepare 7.1 a", 7, mark(0, 9), picks(0, "a")...)
	s.knows("a b c d e f", "a b d e f")
}

// P18.2

func TestWish(t *testing.T) {
	for _, self := range []int{2, 3, 4} {
		s := begun(t, four(), self, mark(0, 9))
		s.wish("", "aabSba")
		s.waits(3)
		s.retells("")
	}
}

func TestWishOfALeader(t *testing.T) {
	s := begun(t, four(), 1, mark(0, 9))
	s.wish("propose 0.1 a", "aa")
	s.wish("propose 0.2 S", "S")
	s.wish("propose 0.3 b, propose 0.4 c, propose 0.5 d, propose 0.6 e, propose 0.7 f, propose 0.8 g", "bcdefg")
	s.wish("", "hijklmb")
	s.waits(14)
	s.where(0, 0, true, false)
	// As the low mark rises, what waits is proposed, four at a number.
	s.runs(1, "a x b c")
	s.made("mark 4 1", mark(4, 1))
	s.told("", 2, mark(4, 1))
	s.told("propose 0.9 Shij, propose 0.10 klm", 3, mark(4, 1))
	s.waits(11)
}

func TestWishRefuses(t *testing.T) {
	s := begun(t, four(), 2, mark(0, 9))
	bad := wishOf('a')
	bad.Epoch, bad.Data = 2, nil
	epoch, group, noEpoch := wishOf('a'), wishOf('a'), wishOf('a')
	epoch.Epoch, group.Group, noEpoch.Epoch = 2, 2, 0
	directory := api.Wish{Client: 34, Stamp: 1, Kind: api.WishQuery, Block: 1}
	for letter := range byte(32) {
		if s.n.Waits() != int(letter) {
			t.Errorf("Waits: %d", s.n.Waits())
		}
		for i, w := range []api.Wish{{}, bad, epoch, group, noEpoch, directory} {
			s.refuses([]api.Errno{api.ErrArg, api.ErrArg, api.ErrEpoch, api.ErrEpoch, api.ErrEpoch, api.ErrEpoch}[i], func() (Out, api.Errno) { return s.n.Wish(w) })
		}
		s.wish("", string('A'+letter%32))
	}
	s.waits(32)
	for _, w := range batch("a") {
		s.refuses(api.ErrFull, func() (Out, api.Errno) { return s.n.Wish(w) })
	}
	s.wish("", "AZ")
	for i, w := range []api.Wish{bad, epoch} {
		s.refuses([]api.Errno{api.ErrArg, api.ErrEpoch}[i], func() (Out, api.Errno) { return s.n.Wish(w) })
	}
	s.runs(1, "BC")
	s.waits(30)
	s.wish("", "aC")
	s.waits(32)
}

// Of the directory's group the epoch is 0, and so are the wishes'.
func TestWishOfTheDirectory(t *testing.T) {
	n, _ := New(ink.New(), four(), 1, 0, 0, mark(0, 1))
	w := api.Wish{Client: 34, Stamp: 1, Kind: api.WishReplace, Block: 2, Old: 9, New: 20}
	o, e := n.Wish(w)
	if e != api.OK || len(o.Notes) != 1 || o.Notes[0].Kind != api.NotePropose || o.Notes[0].Group != 0 || o.Notes[0].Epoch != 0 || o.Notes[0].Seq != 1 {
		t.Errorf("%v, %d", o, e)
	}
	if _, e := n.Wish(wishOf('a')); e != api.ErrEpoch {
		t.Errorf("a chunk's wish: %d", e)
	}
}

// What is run waits no more, whoever proposed it; what was not proposed is proposed behind it.
func TestWaitsNoMore(t *testing.T) {
	s := begun(t, four(), 2, mark(0, 9))
	s.wish("", "abcdef")
	s.runs(1, "ac")
	s.waits(4)
	s.runs(2, "xyz")
	s.waits(4)
	s.wish("", "a")
	s.waits(5)
	// The next leader proposes all of these, in the order in which they came.
	s.enter("propose 1.3 bdef, propose 1.4 a", 1, mark(0, 9))
}

// What stands at a number to come is not proposed again; what was proposed at one that was run with something else is.
func TestProposesWhatStandsNowhere(t *testing.T) {
	s := begun(t, four(), 2, mark(0, 9))
	s.take("prepare 0.2 a, prepare 0.3 b", proposes(1, 0, 2, "a"), proposes(1, 0, 3, "b"))
	s.wish("", "abcd")
	// What stood in the view that is left counts for nothing.
	s.enter("propose 1.3 acd", 1, mark(0, 9), picks(0, "0 b")...)
	s.wish("propose 1.4 e", "be")
	s.runs(1, "x")
	s.take("propose 1.5 b, run 2 y", hasRunNotes(s, 2, "y")...)
	s.take("propose 1.6 acd, run 3 f", hasRunNotes(s, 3, "f")...)
	s.take("propose 1.7 e, run 4 b", hasRunNotes(s, 4, "b")...)
	s.waits(4)
	s.runs(5, "b")
	s.waits(4)
}

// Of several batches that stand no wish is proposed again, in whichever of them it is.
func TestProposesAgainBehindARun(t *testing.T) {
	s := begun(t, four(), 1, mark(0, 9))
	s.wish("propose 0.1 a, propose 0.2 b, propose 0.3 c", "abc")
	s.take("propose 0.4 a, run 1 x", hasRunNotes(s, 1, "x")...)
	s.runs(2, "b")
	s.waits(2)
	s.runs(3, "c")
	s.take("propose 0.5 a, run 4 y", hasRunNotes(s, 4, "y")...)
	s.waits(1)
}

func hasRunNotes(s *scene, seq int, letters string) []api.Note {
	return []api.Note{hasRun(s.other(0), seq, letters), hasRun(s.other(1), seq, letters)}
}

// A leader that has run above its front proposes above what it has run.
func TestProposesAboveWhatIsRun(t *testing.T) {
	s := begun(t, four(), 1, mark(0, 9))
	s.runs(1, "x y z")
	s.wish("propose 0.4 a", "a")
	s.runs(4, "a i j")
	s.wish("propose 0.7 b, propose 0.8 c", "bcd")
	s.waits(3)
}

// What was run up to the window's end leaves no number to propose at, though the front is far below.
func TestProposesNothingOutOfTheWindow(t *testing.T) {
	s := begun(t, four(), 1, mark(0, 9))
	s.runs(1, "x y z i j k l m")
	s.wish("", "ab")
	s.retells("ran 1 x, ran 2 y, ran 3 z, ran 4 i, ran 5 j, ran 6 k, ran 7 l, ran 8 m")
	s.made("mark 4 1", mark(4, 1))
	s.told("", 2, mark(4, 1))
	s.told("propose 0.9 ab", 3, mark(4, 1))
	s.where(0, 8, true, false)
}

func TestProposesNothingWhenStoppedOrEnded(t *testing.T) {
	s := begun(t, four(), 1, mark(0, 9))
	if e := s.n.Stop(); e != api.OK {
		t.Errorf("Stop: %d", e)
	}
	s.wish("", "abcd")
	s.told("", 2, mark(4, 1))
	s.enter("", 1, mark(0, 9))
	s.enter("propose 4.1 abcd", 4, mark(0, 9))
	s.take("run 1 S", hasRunNotes(s, 1, "S")...)
	s.where(4, 1, true, true)
	s.wish("", "e")
	s.enter("", 8, mark(0, 9))
	s.waits(5)
}

// A crew of one proposes, commits and runs at once.
func TestOne(t *testing.T) {
	s := begun(t, one(), 5, mark(0, 9))
	s.wish("propose 0.1 a, commit 0.1 a, run 1 a", "a")
	s.waits(0)
	o := s.n.Stop()
	s.wish("", "bcdefg")
	if o != api.OK {
		t.Errorf("Stop: %d", o)
	}
	s.enter("propose 1.2 bcde, propose 1.3 fg, commit 1.2 bcde, commit 1.3 fg, run 2 bcde, run 3 fg", 1, mark(1, 9))
}
