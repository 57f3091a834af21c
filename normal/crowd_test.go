package normal

import (
	"crypto/sha256"
	"fmt"
	"math/rand"
	"slices"
	"testing"

	"bastide/api"
)

// crowd is a crew's normals, what is on its way among them, and what each has run; f of the crew may be anybody's tools.
type crowd struct {
	t       *testing.T
	r       *rand.Rand
	crew    api.Crew
	good    []int
	bad     []int
	scenes  map[int]*scene
	mails   []mail
	history map[int][]api.Digest // of each node what it has run, from the number 1 on
	truth   []api.Digest         // what the first one ran at each number
	wished  map[byte]int         // how many nodes have run each wish
}

type mail struct {
	to int
	x  api.Note
}

// gathered is a crowd in which the first nodes behind the leader of the view 0 lie, as many as may, or the leader among them.
func gathered(t *testing.T, c api.Crew, seed int64, leaderLies bool) *crowd {
	w := &crowd{t: t, r: rand.New(rand.NewSource(seed)), crew: c, scenes: map[int]*scene{}, history: map[int][]api.Digest{}, wished: map[byte]int{}}
	first := 1
	if leaderLies {
		first = 0
	}
	w.bad = c.Nodes[first : first+c.Faults]
	for _, node := range c.Nodes {
		if !slices.Contains(w.bad, node) {
			w.good = append(w.good, node)
			w.scenes[node] = begun(t, c, node, mark(0, 9))
		}
	}
	return w
}

// comes takes what came of something at a node: what is run is held against what others ran there.
func (w *crowd) comes(node int, o Out, e api.Errno) {
	w.t.Helper()
	for _, x := range o.Notes {
		for _, to := range w.good {
			if to != node {
				w.mails = append(w.mails, mail{to, x})
			}
		}
	}
	for _, r := range o.Runs {
		if r.Seq != len(w.history[node])+1 || r.Digest != digestOf(r.Batch) {
			w.t.Fatalf("%d runs %d, behind %d", node, r.Seq, len(w.history[node]))
		}
		w.history[node] = append(w.history[node], r.Digest)
		if r.Seq > len(w.truth) {
			w.truth = append(w.truth, r.Digest)
		}
		if w.truth[r.Seq-1] != r.Digest {
			w.t.Fatalf("%d runs %s at %d, another one %s", node, words[r.Digest], r.Seq, words[w.truth[r.Seq-1]])
		}
		for _, x := range r.Batch {
			w.wished[letterOf(x)]++
		}
		if r.Seq%api.Every == 0 {
			p, f := w.scenes[node].n.Made(w.root(node, r.Seq))
			w.comes(node, p, f)
		}
	}
}

// root is of all that a node has run up to a number.
func (w *crowd) root(node, seq int) api.Mark {
	h := sha256.New()
	for _, d := range w.history[node][:seq] {
		h.Write(d[:])
	}
	return api.Mark{Seq: seq, Digest: api.Digest(h.Sum(nil))}
}

// install has a node that lacks a checkpoint take it from one that has it.
func (w *crowd) install(node int) {
	m, lacks := w.scenes[node].n.Lacks()
	for _, from := range w.good {
		if lacks && len(w.history[from]) >= m.Seq && w.root(from, m.Seq) == m {
			w.history[node] = slices.Clone(w.history[from][:m.Seq])
			o, e := w.scenes[node].n.Installed(m)
			w.comes(node, o, e)
			return
		}
	}
	if lacks {
		w.t.Fatalf("nobody has run what some tell: %v", m)
	}
}

// deliver hands any of the first few mails over, so that they come in almost any order.
func (w *crowd) deliver() {
	i := w.r.Intn(min(len(w.mails), 30))
	x := w.mails[i]
	w.mails = slices.Delete(w.mails, i, i+1)
	s := w.scenes[x.to]
	o, e := s.n.Take(x.x)
	w.comes(x.to, o, e)
	w.bounded(s.n)
}

func (w *crowd) bounded(n *Normal) {
	if len(n.batches) > 4*8+8+8*len(w.crew.Nodes) || len(n.waits) > 32 || len(n.told) > 8*len(w.crew.Nodes) || len(n.commits) > 8 || len(n.done) > 8 {
		w.t.Fatalf("%d batches, %d wishes, %d told, %d commits, %d done", len(n.batches), len(n.waits), len(n.told), len(n.commits), len(n.done))
	}
}

func (w *crowd) wish(letter byte) {
	for _, node := range w.good {
		o, e := w.scenes[node].n.Wish(wishOf(letter))
		if e != api.ErrFull {
			w.comes(node, o, e)
		}
	}
}

// retell has all tell again.
func (w *crowd) retell() {
	for _, node := range w.good {
		w.comes(node, Out{Notes: w.scenes[node].n.Retell()}, api.OK)
	}
}

// lie has a liar tell one node something that may be, of a few batches, so that some of it fits.
func (w *crowd) lie() {
	if len(w.bad) == 0 {
		return
	}
	from, to := anyOf(w.r, w.bad...), anyOf(w.r, w.good...)
	view, ran, _, _ := w.scenes[to].n.Where()
	seq := max(1, ran+w.r.Intn(10)-1)
	letters := anyOf(w.r, fmt.Sprint(seq%4), fmt.Sprint(seq%4+4), "")
	if x, ok := w.scenes[to].n.slots.At(seq); ok && w.r.Intn(2) == 0 {
		letters = words[x.Digest]
		if letters == "-" {
			letters = ""
		}
	}
	view += w.r.Intn(8) / 7
	x := []api.Note{
		proposes(from, view, seq, letters), prepares(from, view, seq, letters), commits(from, view, seq, letters), hasRun(from, seq, letters), tells(from, mark(seq, 7)),
	}[w.r.Intn(5)]
	if x.Kind == api.NotePropose && view%len(w.crew.Nodes) < 7 {
		x.From = w.crew.Nodes[view%len(w.crew.Nodes)]
		if !slices.Contains(w.bad, x.From) {
			return
		}
	}
	o, e := w.scenes[to].n.Take(x)
	w.comes(to, o, e)
	w.bounded(w.scenes[to].n)
}

// change has all stop, and some of them enter the next view, with picks of the greatest views in which anything was prepared.
func (w *crowd) change() {
	view, low := 0, api.Mark{}
	best := map[int]api.Stand{}
	for _, node := range w.good {
		n := w.scenes[node].n
		n.Stop()
		at, _, _, _ := n.Where()
		view = max(view, at+1)
		m := n.Image()
		if m.Low.Seq > low.Seq {
			low = m.Low
		}
		for _, x := range m.P {
			if old, is := best[x.Seq]; !is || x.View > old.View {
				best[x.Seq] = x
			}
		}
	}
	var l []api.Pick
	for seq := low.Seq + 1; seq <= low.Seq+8; seq++ {
		p := api.Pick{Seq: seq}
		for _, node := range w.good {
			if b, known := w.scenes[node].n.Batch(best[seq].Digest); known {
				p.Digest, p.Batch = best[seq].Digest, b
			}
		}
		if _, is := best[seq]; is && p.Digest != best[seq].Digest {
			w.t.Fatalf("nobody knows what was prepared at %d", seq)
		}
		l = append(l, p)
	}
	for len(l) > 0 && l[len(l)-1].Digest == (api.Digest{}) {
		l = l[:len(l)-1]
	}
	for _, node := range w.good {
		if w.r.Intn(6) > 0 {
			o, e := w.scenes[node].n.Enter(view, low, l)
			w.comes(node, o, e)
		}
	}
}

// fall has a node go on from its image.
func (w *crowd) fall(node int) {
	s := w.scenes[node]
	w.scenes[node] = s.again(s.n.Image())
}

// P18.9

// Whatever liars say, whatever is lost, whoever falls, and however often the view changes: nobody runs anything else at a number (comes looks at that).
func TestOneOrder(t *testing.T) {
	for _, c := range crews() {
		all := 0
		for seed := range int64(12) {
			w := gathered(t, c, seed, seed%2 == 0)
			for range 5000 {
				w.stir()
			}
			all += len(w.truth)
		}
		if all < 100 {
			t.Errorf("crew %v: %d numbers alone were run", c, all)
		}
	}
}

// stir has anything happen.
func (w *crowd) stir() {
	node := anyOf(w.r, w.good...)
	switch w.r.Intn(250) {
	case 0, 1, 2, 3, 4, 5, 6, 7:
		w.wish(anyOf(w.r, []byte("abcdefghijklmnopqrstuvwxyz")...))
	case 8:
		w.retell()
	case 9:
		w.change()
	case 10:
		w.fall(node)
	case 11, 12:
		w.install(node)
	case 13:
		w.mails = w.mails[min(len(w.mails), w.r.Intn(40)):]
	default:
		if w.r.Intn(4) == 0 {
			w.lie()
		}
		for range w.r.Intn(2 * len(w.crew.Nodes)) {
			if len(w.mails) > 0 {
				w.deliver()
			}
		}
	}
}

// P18.10

// What is wished is run by all, in whichever order notes come, though some liars are silent, or talk.
func TestAllIsRun(t *testing.T) {
	for _, c := range crews() {
		for seed := range int64(12) {
			w := gathered(t, c, seed, false)
			letters := "ABCDEFGHIJKLMNOPQRTUVWXYZabcdefghijklm"
			for i := range len(letters) {
				w.wish(letters[i])
				for range w.r.Intn(60) {
					if len(w.mails) > 0 {
						w.deliver()
					}
					if seed%3 == 0 {
						w.lie()
					}
				}
			}
			for round := 0; !w.isRun(letters); round++ {
				if round == 12 {
					t.Fatalf("crew %v, seed %d: not all is run: %v", c, seed, w.wished)
				}
				for len(w.mails) > 0 {
					w.deliver()
				}
				for _, node := range w.good {
					w.install(node)
				}
				w.retell()
				w.again(letters)
			}
			for len(w.mails) > 0 {
				w.deliver()
			}
			for _, node := range w.good {
				if n := w.scenes[node].n; n.Waits() != 0 || n.Image().Low.Seq < len(w.truth)-8 {
					t.Errorf("crew %v, seed %d: at %d %d wait, low %d of %d", c, seed, node, n.Waits(), n.Image().Low.Seq, len(w.truth))
				}
			}
		}
	}
}

// again has those wishes told that were lost where too many waited.
func (w *crowd) again(letters string) {
	for i := range len(letters) {
		if w.wished[letters[i]] == 0 {
			w.wish(letters[i])
		}
	}
}

// isRun tells whether all have run all numbers, and each wish is among these.
func (w *crowd) isRun(letters string) bool {
	for _, node := range w.good {
		if len(w.history[node]) < len(w.truth) {
			return false
		}
	}
	for i := range len(letters) {
		if w.wished[letters[i]] == 0 {
			return false
		}
	}
	return true
}

// P18.11

// Of eight numbers, of four proposals of each, and of what each node may say: no more is kept, whatever comes.
func TestKeepsNoMore(t *testing.T) {
	w := &crowd{t: t, crew: crews()[4]}
	s := begun(t, w.crew, 2, mark(0, 9))
	for view := range 9 {
		if view > 0 {
			s.enter(s.enterText(view), view, mark(0, 9), picks(0, s.unlike(view))...)
		}
		for seq := 1; seq <= 8; seq++ {
			s.n.Take(proposes(1+view%7, view, seq, fmt.Sprint(view, seq)))
			for _, node := range []int{1, 3, 4, 5, 6, 7} {
				s.n.Take(hasRun(node, seq, fmt.Sprint(node, seq)))
				s.n.Take(hasRun(node, seq, fmt.Sprint(view, node)))
				s.n.Take(prepares(node, view+1, seq, fmt.Sprint(view, seq)))
				s.n.Take(commits(node, view+2, seq, fmt.Sprint(view, seq)))
				s.n.Told(node, mark(100*view+seq, 1))
			}
		}
		for letter := range byte(80) {
			s.n.Wish(wishOf(letter))
		}
		w.bounded(s.n)
	}
	if len(s.n.batches) != 4*8+6*8 || s.n.Waits() != 32 {
		t.Errorf("%d batches, %d wait", len(s.n.batches), s.n.Waits())
	}
	if m := s.n.Image(); len(m.Q) != 32 || len(m.Batches) != 32 {
		t.Errorf("%d in Q, %d batches", len(m.Q), len(m.Batches))
	}
}

// unlike are eight batches that no other view has.
func (s *scene) unlike(view int) string {
	var all string
	for i := range 8 {
		all += fmt.Sprintf("%c%c ", 'A'+view, 'a'+i)
	}
	return all
}

// enterText is what a node that does not lead says of these.
func (s *scene) enterText(view int) string {
	if s.crew.Nodes[view%len(s.crew.Nodes)] == s.self {
		return ""
	}
	var l []string
	for i := range 8 {
		l = append(l, fmt.Sprintf("prepare %d.%d %c%c", view, i+1, 'A'+view, 'a'+i))
	}
	return fmt.Sprint(joined(l))
}

func joined(l []string) string {
	var all string
	for i, x := range l {
		if i > 0 {
			all += ", "
		}
		all += x
	}
	return all
}
