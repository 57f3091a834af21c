package normal

import (
	"crypto/sha256"
	"fmt"
	"math"
	"slices"
	"strings"
	"testing"

	"bastide/api"
	"bastide/ink"
	"bastide/note"
	"bastide/wish"
)

// wishOf is the wish of a letter, of the group 1 and the epoch 1: S is a seal, all else are writes.
func wishOf(letter byte) api.Wish {
	if letter == 'S' {
		return api.Wish{Group: 1, Epoch: 1, Kind: api.WishSeal, Next: []int{2, 3, 4, 5}}
	}
	data := make([]byte, api.BlockSize)
	data[5] = letter
	return api.Wish{Client: 31 + int(letter)%3, Stamp: 1 + int(letter), Group: 1, Epoch: 1, Kind: api.WishWrite, Block: int(letter) % 8, Data: data}
}

// letterOf is the letter of a wish; '?', if it is of none.
func letterOf(w api.Wish) byte {
	letter := byte('S')
	if len(w.Data) > 5 {
		letter = w.Data[5]
	}
	if !wish.Same(w, wishOf(letter)) {
		return '?'
	}
	return letter
}

// batch has a wish of each letter.
func batch(letters string) []api.Wish {
	var l []api.Wish
	for i := range len(letters) {
		l = append(l, wishOf(letters[i]))
	}
	return l
}

func lettersOf(l []api.Wish) string {
	var b []byte
	for _, w := range l {
		b = append(b, letterOf(w))
	}
	words[digestOf(l)] = or(string(b))
	return string(b)
}

// digestOf is a batch's digest, without the program's own.
func digestOf(l []api.Wish) api.Digest {
	b, e := wish.Batch(l)
	if e != api.OK {
		panic("no batch")
	}
	return sha256.Sum256(b)
}

// words are the letters of batches, by digests: of all that a test has named till now.
var words = map[api.Digest]string{}

func digest(letters string) api.Digest {
	d := digestOf(batch(letters))
	words[d] = or(letters)
	return d
}

// mark is a checkpoint; the root 0 is the zero one.
func mark(seq int, root byte) api.Mark {
	return api.Mark{Seq: seq, Digest: api.Digest{31: root}}
}

func stand(seq, view int, letters string) api.Stand {
	return api.Stand{Seq: seq, View: view, Digest: digest(letters)}
}

func four() api.Crew {
	return api.Crew{Faults: 1, Nodes: []int{1, 2, 3, 4}}
}

func one() api.Crew {
	return api.Crew{Nodes: []int{5}}
}

func crews() []api.Crew {
	return []api.Crew{
		{Nodes: []int{1}}, {Nodes: []int{28}}, four(), {Faults: 1, Nodes: []int{2, 9, 21, 28}},
		{Faults: 2, Nodes: []int{1, 2, 3, 4, 5, 6, 7}}, {Faults: 2, Nodes: []int{3, 4, 10, 15, 20, 27, 28}},
	}
}

// What others say, of the group 1 and the epoch 1.

func proposes(from, view, seq int, letters string) api.Note {
	return api.Note{Kind: api.NotePropose, From: from, Group: 1, Epoch: 1, View: view, Seq: seq, Batch: batch(letters)}
}

func prepares(from, view, seq int, letters string) api.Note {
	return api.Note{Kind: api.NotePrepare, From: from, Group: 1, Epoch: 1, View: view, Seq: seq, Digest: digest(letters)}
}

func commits(from, view, seq int, letters string) api.Note {
	return api.Note{Kind: api.NoteCommit, From: from, Group: 1, Epoch: 1, View: view, Seq: seq, Digest: digest(letters)}
}

func tells(from int, m api.Mark) api.Note {
	return api.Note{Kind: api.NoteCheckpoint, From: from, Group: 1, Epoch: 1, Seq: m.Seq, Digest: m.Digest}
}

func hasRun(from, seq int, letters string) api.Note {
	return api.Note{Kind: api.NoteRan, From: from, Group: 1, Epoch: 1, Seq: seq, Batch: batch(letters)}
}

// scene is a normal of the group 1 and the epoch 1, and what is known of it.
type scene struct {
	t    *testing.T
	crew api.Crew
	self int
	n    *Normal
}

func begun(t *testing.T, c api.Crew, self int, low api.Mark) *scene {
	t.Helper()
	n, e := New(ink.New(), c, self, 1, 1, low)
	if n == nil || e != api.OK {
		t.Fatalf("New: %d", e)
	}
	return &scene{t, c, self, n}
}

// again is a scene that goes on from an image.
func (s *scene) again(m Image) *scene {
	s.t.Helper()
	n, e := Restore(ink.New(), s.crew, s.self, 1, 1, m)
	if n == nil || e != api.OK {
		s.t.Fatalf("Restore: %d", e)
	}
	return &scene{s.t, s.crew, s.self, n}
}

// noteText tells a note of the scene's own in words: "prepare 0.3 ab" is of the view 0 and the number 3.
func (s *scene) noteText(x api.Note) string {
	if note.Check(x) != api.OK || x.From != s.self || x.Group != 1 || x.Epoch != 1 {
		return fmt.Sprintf("bad: %v", x)
	}
	switch x.Kind {
	case api.NotePropose:
		return fmt.Sprintf("propose %d.%d %s", x.View, x.Seq, or(lettersOf(x.Batch)))
	case api.NotePrepare:
		return fmt.Sprintf("prepare %d.%d %s", x.View, x.Seq, words[x.Digest])
	case api.NoteCommit:
		return fmt.Sprintf("commit %d.%d %s", x.View, x.Seq, words[x.Digest])
	case api.NoteCheckpoint:
		return fmt.Sprintf("mark %d %d", x.Seq, x.Digest[31])
	case api.NoteRan:
		return fmt.Sprintf("ran %d %s", x.Seq, or(lettersOf(x.Batch)))
	}
	return fmt.Sprintf("kind %d", x.Kind)
}

func or(letters string) string {
	if letters == "" {
		return "-"
	}
	return letters
}

func (s *scene) notesText(l []api.Note) string {
	var all []string
	for _, x := range l {
		all = append(all, s.noteText(x))
	}
	return strings.Join(all, ", ")
}

// text tells what comes of something: notes, then runs.
func (s *scene) text(o Out) string {
	var all []string
	if len(o.Notes) > 0 {
		all = append(all, s.notesText(o.Notes))
	}
	for _, r := range o.Runs {
		if r.Digest != digestOf(r.Batch) {
			all = append(all, "bad digest")
		}
		all = append(all, fmt.Sprintf("run %d %s", r.Seq, or(lettersOf(r.Batch))))
	}
	return strings.Join(all, ", ")
}

// comes looks at what came of something.
func (s *scene) comes(want string, o Out, e api.Errno) {
	s.t.Helper()
	if e != api.OK || s.text(o) != want {
		s.t.Errorf("%d, %q, not %q", e, s.text(o), want)
	}
}

// take has it take notes, of which the words come in all.
func (s *scene) take(want string, notes ...api.Note) {
	s.t.Helper()
	var all Out
	for _, x := range notes {
		o, e := s.n.Take(x)
		if e != api.OK {
			s.t.Errorf("Take(%v): %d", x, e)
		}
		all.Notes, all.Runs = append(all.Notes, o.Notes...), append(all.Runs, o.Runs...)
	}
	s.comes(want, all, api.OK)
}

// wish has it told wishes, likewise.
func (s *scene) wish(want, letters string) {
	s.t.Helper()
	var all Out
	for _, w := range batch(letters) {
		o, e := s.n.Wish(w)
		if e != api.OK {
			s.t.Errorf("Wish(%v): %d", w, e)
		}
		all.Notes, all.Runs = append(all.Notes, o.Notes...), append(all.Runs, o.Runs...)
	}
	s.comes(want, all, api.OK)
}

func (s *scene) told(want string, node int, m api.Mark) {
	s.t.Helper()
	o, e := s.n.Told(node, m)
	s.comes(want, o, e)
}

func (s *scene) made(want string, m api.Mark) {
	s.t.Helper()
	o, e := s.n.Made(m)
	s.comes(want, o, e)
}

func (s *scene) installed(want string, m api.Mark) {
	s.t.Helper()
	o, e := s.n.Installed(m)
	s.comes(want, o, e)
}

func (s *scene) enter(want string, view int, low api.Mark, picks ...api.Pick) {
	s.t.Helper()
	o, e := s.n.Enter(view, low, picks)
	s.comes(want, o, e)
}

// picks are some that follow a low mark, one a word; '0' is a zero digest, '-' the batch without wishes.
func picks(low int, words string) []api.Pick {
	var l []api.Pick
	for i, letters := range strings.Fields(words) {
		p := api.Pick{Seq: low + 1 + i}
		if letters == "-" {
			letters = ""
		}
		if letters != "0" {
			p.Digest, p.Batch = digest(letters), batch(letters)
		}
		l = append(l, p)
	}
	return l
}

// runs has it run batches, one a word, from a number on, as some others say that they did.
func (s *scene) runs(from int, words string) {
	s.t.Helper()
	for i, letters := range strings.Fields(words) {
		want := fmt.Sprintf("run %d %s", from+i, letters)
		s.take(want, hasRun(s.other(0), from+i, letters), hasRun(s.other(1), from+i, letters))
	}
}

// other is one of the crew, but for itself.
func (s *scene) other(i int) int {
	return slices.DeleteFunc(slices.Clone(s.crew.Nodes), func(n int) bool { return n == s.self })[i]
}

func (s *scene) where(view, ran int, active, ended bool) {
	s.t.Helper()
	if v, r, a, e := s.n.Where(); v != view || r != ran || a != active || e != ended {
		s.t.Errorf("Where: %d, %d, %v, %v, not %d, %d, %v, %v", v, r, a, e, view, ran, active, ended)
	}
}

func (s *scene) waits(want int) {
	s.t.Helper()
	if n := s.n.Waits(); n != want {
		s.t.Errorf("Waits: %d, not %d", n, want)
	}
}

func (s *scene) low(want api.Mark) {
	s.t.Helper()
	if low := s.n.Image().Low; low != want {
		s.t.Errorf("low %v, not %v", low, want)
	}
}

func (s *scene) retells(want string) {
	s.t.Helper()
	if got := s.notesText(s.n.Retell()); got != want {
		s.t.Errorf("Retell: %q, not %q", got, want)
	}
}

// knows looks at which batches of a list it knows.
func (s *scene) knows(all, want string) {
	s.t.Helper()
	var got []string
	for _, letters := range strings.Fields(all) {
		l, ok := s.n.Batch(digest(strings.Trim(letters, "-")))
		if ok && lettersOf(l) != strings.Trim(letters, "-") || !ok && len(l) > 0 {
			s.t.Errorf("Batch(%s): %v, %v", letters, l, ok)
		}
		if ok {
			got = append(got, letters)
		}
	}
	if strings.Join(got, " ") != want {
		s.t.Errorf("knows %v, not %s", got, want)
	}
}

// seen is all that a normal tells, as text.
func seen(n *Normal) string {
	view, ran, active, ended := n.Where()
	lacks, ok := n.Lacks()
	return fmt.Sprintf("%x", []any{view, ran, active, ended, n.Waits(), lacks, ok, n.Image(), n.Retell(), n.Change(3)})
}

// refuses looks at an error, which must have changed nothing and answered nothing.
func (s *scene) refuses(want api.Errno, do func() (Out, api.Errno)) {
	s.t.Helper()
	was := seen(s.n)
	o, e := do()
	if e != want || len(o.Notes) > 0 || len(o.Runs) > 0 {
		s.t.Errorf("%q, %d, not %d", s.text(o), e, want)
	}
	if seen(s.n) != was {
		s.t.Errorf("an error %d changed something", e)
	}
}

func (s *scene) refusesNote(want api.Errno, notes ...api.Note) {
	s.t.Helper()
	for _, x := range notes {
		s.refuses(want, func() (Out, api.Errno) { return s.n.Take(x) })
	}
}

// noNumbers are numbers that are not from one to another.
func noNumbers(least, most int) []int {
	return []int{least - 1, most + 1, least - 2, most + 2, math.MinInt, math.MaxInt, least - 1<<32, most + 1<<32}
}
