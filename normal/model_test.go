package normal

import (
	"bytes"
	"fmt"
	"math/rand"
	"slices"
	"testing"

	"bastide/api"
	"bastide/wish"
)

// A model reads the chapters' words again: it keeps lists of all that was said, and finds in these what is asked.
type model struct {
	crew    api.Crew
	self    int
	view    int
	active  bool
	low     api.Mark
	said    []saying // what was proposed, prepared, committed
	p       []api.Stand
	marks   []saying
	rans    []saying
	did     []int // the numbers at which it said in this view that it commits
	ran     int
	done    []api.Mark
	ended   bool
	batches []Batch
	waits   []api.Wish
	front   int
}

// saying is of a node, a view, a number; what is 'o' (proposed), 'r' (prepares), 'c' (commits), and 0 of marks and of what was run.
type saying struct {
	what            byte
	node, view, seq int
	d               api.Digest
}

func newModel(c api.Crew, self int, low api.Mark) *model {
	return &model{crew: c, self: self, active: true, low: low, ran: low.Seq, front: low.Seq}
}

func (m *model) leader(view int) int {
	return m.crew.Nodes[view%len(m.crew.Nodes)]
}

func (m *model) open(seq int) bool {
	return seq > m.low.Seq && seq <= m.low.Seq+8
}

// last is what was said last by a node at a number.
func (m *model) last(what byte, node, seq int) (saying, bool) {
	for i := len(m.said) - 1; i >= 0; i-- {
		if x := m.said[i]; x.what == what && x.node == node && x.seq == seq {
			return x, true
		}
	}
	return saying{}, false
}

// stands is what was proposed last at a number, if that was in its view.
func (m *model) stands(seq int) (saying, bool) {
	x, is := m.last('o', 0, seq)
	return x, is && x.view == m.view && m.open(seq)
}

// count is how many nodes say last what was proposed last.
func (m *model) count(what byte, seq int) int {
	p, is := m.last('o', 0, seq)
	n := 0
	for _, node := range m.crew.Nodes {
		if v, said := m.last(what, node, seq); is && said && v.view == p.view && v.d == p.d {
			n++
		}
	}
	return n
}

func (m *model) prepared(seq int) bool {
	_, is := m.last('o', 0, seq)
	return is && m.count('r', seq) >= 2*m.crew.Faults
}

// say notes what is said at a number of the window, by the words of chapter 14.
func (m *model) say(x saying) api.Errno {
	if x.what == 'r' && m.leader(x.view) == x.node {
		return api.ErrArg
	}
	if !m.open(x.seq) {
		return api.ErrWindow
	}
	if old, is := m.last(x.what, x.node, x.seq); is && old.view > x.view {
		return api.ErrView
	} else if is && old.view == x.view && old.d != x.d {
		return api.ErrOther
	}
	m.said = append(m.said, x)
	if x.what != 'c' && m.prepared(x.seq) {
		p, _ := m.last('o', 0, x.seq)
		m.p = slices.DeleteFunc(m.p, func(s api.Stand) bool { return s.Seq == x.seq })
		m.p = append(m.p, api.Stand{Seq: x.seq, View: p.view, Digest: p.d})
		slices.SortFunc(m.p, func(a, b api.Stand) int { return a.Seq - b.Seq })
	}
	return api.OK
}

// q goes through all proposals of each number anew.
func (m *model) q() []api.Stand {
	var all []api.Stand
	for seq := m.low.Seq + 1; seq <= m.low.Seq+8; seq++ {
		var l []api.Stand
		for _, x := range m.said {
			if x.what != 'o' || x.seq != seq {
				continue
			}
			at := slices.IndexFunc(l, func(y api.Stand) bool { return y.Digest == x.d })
			if at < 0 && len(l) == 4 {
				at = 0
			}
			if at >= 0 {
				l = slices.Delete(l, at, at+1)
			}
			l = append(l, api.Stand{Seq: seq, View: x.view, Digest: x.d})
			slices.SortFunc(l, func(a, b api.Stand) int {
				if a.View != b.View {
					return a.View - b.View
				}
				return bytes.Compare(a.Digest[:], b.Digest[:])
			})
		}
		all = append(all, l...)
	}
	return all
}

// told notes a mark, by the words of chapter 15.
func (m *model) told(node int, x api.Mark) api.Errno {
	if !slices.Contains(m.crew.Nodes, node) {
		return api.ErrCrew
	}
	if x.Seq <= m.low.Seq || x.Seq > 1<<53-1 {
		return api.ErrRange
	}
	for _, y := range m.marks {
		if y.node == node && y.seq == x.Seq {
			if y.d != x.Digest {
				return api.ErrOther
			}
			return api.OK
		}
	}
	m.marks = append(m.marks, saying{node: node, seq: x.Seq, d: x.Digest})
	if l := m.marksOf(node); len(l) == 5 {
		m.marks = slices.DeleteFunc(m.marks, func(y saying) bool { return y.node == node && y.seq == l[0].Seq })
	}
	return api.OK
}

func (m *model) marksOf(node int) []api.Mark {
	var l []api.Mark
	for _, y := range m.marks {
		if y.node == node {
			l = append(l, api.Mark{Seq: y.seq, Digest: y.d})
		}
	}
	slices.SortFunc(l, func(a, b api.Mark) int { return a.Seq - b.Seq })
	return l
}

// by is the greatest mark that so many nodes tell.
func (m *model) by(many int) (api.Mark, bool) {
	best, ok := api.Mark{}, false
	for _, y := range m.marks {
		n := 0
		for _, z := range m.marks {
			if z.seq == y.seq && z.d == y.d {
				n++
			}
		}
		if n >= many && (!ok || y.seq > best.Seq || y.seq == best.Seq && bytes.Compare(y.d[:], best.Digest[:]) < 0) {
			best, ok = api.Mark{Seq: y.seq, Digest: y.d}, true
		}
	}
	return best, ok
}

func (m *model) raise(x api.Mark) {
	m.low = x
	gone := func(y saying) bool { return y.seq <= x.Seq }
	m.said, m.marks = slices.DeleteFunc(m.said, gone), slices.DeleteFunc(m.marks, gone)
	m.p = slices.DeleteFunc(m.p, func(s api.Stand) bool { return s.Seq <= x.Seq })
	m.done = slices.DeleteFunc(m.done, func(d api.Mark) bool { return d.Seq <= x.Seq })
}

func (m *model) batch(d api.Digest) ([]api.Wish, bool) {
	for _, b := range m.batches {
		if b.Digest == d {
			return b.Wishes, true
		}
	}
	return nil, false
}

func (m *model) learn(l []api.Wish) api.Digest {
	d := digestOf(l)
	if _, is := m.batch(d); !is {
		m.batches = append(m.batches, Batch{d, l})
	}
	return d
}

func among(l []api.Wish, w api.Wish) bool {
	return slices.ContainsFunc(l, func(x api.Wish) bool { return wish.Same(x, w) })
}

func (m *model) note(kind int, seq int) api.Note {
	return api.Note{Kind: kind, From: m.self, Group: 1, Epoch: 1, Seq: seq}
}

func (m *model) vote(kind, seq int, d api.Digest) api.Note {
	x := m.note(kind, seq)
	x.View, x.Digest = m.view, d
	return x
}

func (m *model) checkpoint(c api.Mark) api.Note {
	x := m.note(api.NoteCheckpoint, c.Seq)
	x.Digest = c.Digest
	return x
}

func (m *model) prepare(seq int, d api.Digest) api.Note {
	m.say(saying{'r', m.self, m.view, seq, d})
	return m.vote(api.NotePrepare, seq, d)
}

// goOn does one thing after the other, as long as anything comes of it.
func (m *model) goOn(o *Out) {
	for m.commit(o) || m.run(o) || m.stable() || m.propose(o) {
	}
	m.rans = slices.DeleteFunc(m.rans, func(x saying) bool { return x.seq <= m.ran })
	m.batches = slices.DeleteFunc(m.batches, func(b Batch) bool {
		return !slices.ContainsFunc(m.q(), func(s api.Stand) bool { return s.Digest == b.Digest }) &&
			!slices.ContainsFunc(m.done, func(d api.Mark) bool { return d.Digest == b.Digest }) &&
			!slices.ContainsFunc(m.rans, func(x saying) bool { return x.d == b.Digest })
	})
}

func (m *model) commit(o *Out) bool {
	for seq := m.low.Seq + 1; m.active && seq <= m.low.Seq+8; seq++ {
		if x, is := m.stands(seq); is && m.prepared(seq) && !slices.Contains(m.did, seq) {
			m.say(saying{'c', m.self, m.view, seq, x.d})
			m.did = append(m.did, seq)
			o.Notes = append(o.Notes, m.vote(api.NoteCommit, seq, x.d))
			return true
		}
	}
	return false
}

func (m *model) run(o *Out) bool {
	next := m.ran + 1
	x, _ := m.last('o', 0, next)
	d, ok := x.d, m.prepared(next) && m.count('c', next) > 2*m.crew.Faults
	others := false
	for _, y := range m.rans {
		n := 0
		for _, z := range m.rans {
			if y.seq == next && z.seq == next && y.d == z.d {
				n++
			}
		}
		if n > m.crew.Faults && (!others || bytes.Compare(y.d[:], d[:]) < 0) {
			d, ok, others = y.d, true, true
		}
	}
	l, is := m.batch(d)
	if !ok || !is || m.ended {
		return false
	}
	m.ran++
	m.done = append(m.done, api.Mark{Seq: m.ran, Digest: d})
	m.waits = slices.DeleteFunc(m.waits, func(w api.Wish) bool { return among(l, w) })
	m.ended = slices.ContainsFunc(l, func(w api.Wish) bool { return w.Kind == 5 })
	o.Runs = append(o.Runs, Run{m.ran, d, l})
	return true
}

func (m *model) stable() bool {
	x, ok := m.by(2*m.crew.Faults + 1)
	if !ok || x.Seq > m.ran || x.Seq > 1<<53-9 {
		return false
	}
	m.raise(x)
	return true
}

func (m *model) propose(o *Out) bool {
	var l []api.Wish
	for _, w := range m.waits {
		stands := false
		for seq := m.ran + 1; seq <= m.low.Seq+8; seq++ {
			x, is := m.stands(seq)
			b, _ := m.batch(x.d)
			stands = stands || is && among(b, w)
		}
		if !stands && len(l) < 4 {
			l = append(l, w)
		}
	}
	next := max(m.front, m.ran) + 1
	if !m.active || m.ended || m.leader(m.view) != m.self || next > m.low.Seq+8 || len(l) == 0 {
		return false
	}
	m.front = next
	m.say(saying{'o', 0, m.view, next, m.learn(l)})
	x := m.note(api.NotePropose, next)
	x.View, x.Batch = m.view, l
	o.Notes = append(o.Notes, x)
	// The others are proposed ahead of what comes of this one.
	m.propose(o)
	return true
}

// What is done.

func (m *model) wish(w api.Wish) (Out, api.Errno) {
	var o Out
	if wish.Check(w) != api.OK {
		return o, api.ErrArg
	}
	if w.Group != 1 || w.Epoch != 1 {
		return o, api.ErrEpoch
	}
	if among(m.waits, w) {
		return o, api.OK
	}
	if len(m.waits) == 32 {
		return o, api.ErrFull
	}
	m.waits = append(m.waits, w)
	m.goOn(&o)
	return o, api.OK
}

func (m *model) take(x api.Note) (Out, api.Errno) {
	var o Out
	if x.Seq > 1<<53-1 {
		return o, api.ErrArg
	}
	if x.Epoch != 1 {
		return o, api.ErrEpoch
	}
	if x.From == m.self || !slices.Contains(m.crew.Nodes, x.From) {
		return o, api.ErrCrew
	}
	e := m.taken(x, &o)
	if e == api.OK {
		m.goOn(&o)
	}
	return o, e
}

func (m *model) taken(x api.Note, o *Out) api.Errno {
	switch x.Kind {
	case api.NotePropose:
		if !m.active || x.View != m.view || x.From != m.leader(m.view) {
			return api.ErrView
		}
		d := digestOf(x.Batch)
		was, is := m.stands(x.Seq)
		e := m.say(saying{'o', 0, x.View, x.Seq, d})
		if e != api.OK {
			return e
		}
		m.learn(x.Batch)
		if !is || was.d != d {
			o.Notes = append(o.Notes, m.prepare(x.Seq, d))
		}
	case api.NotePrepare, api.NoteCommit:
		if x.View < m.view {
			return api.ErrView
		}
		return m.say(saying{map[int]byte{4: 'r', 5: 'c'}[x.Kind], x.From, x.View, x.Seq, x.Digest})
	case api.NoteCheckpoint:
		return m.told(x.From, api.Mark{Seq: x.Seq, Digest: x.Digest})
	case api.NoteRan:
		if x.Seq <= m.ran || x.Seq > m.low.Seq+8 {
			return api.ErrRange
		}
		if !slices.ContainsFunc(m.rans, func(y saying) bool { return y.node == x.From && y.seq == x.Seq }) {
			m.rans = append(m.rans, saying{node: x.From, seq: x.Seq, d: m.learn(x.Batch)})
		}
	}
	return api.OK
}

func (m *model) made(x api.Mark) (Out, api.Errno) {
	var o Out
	if x.Seq <= m.low.Seq || x.Seq > m.ran {
		return o, api.ErrRange
	}
	if e := m.told(m.self, x); e != api.OK {
		return o, e
	}
	o.Notes = append(o.Notes, m.checkpoint(x))
	m.goOn(&o)
	return o, api.OK
}

func (m *model) installed(x api.Mark) (Out, api.Errno) {
	var o Out
	if x.Seq <= m.ran || x.Seq > 1<<53-9 {
		return o, api.ErrRange
	}
	m.ran, m.front = x.Seq, max(m.front, x.Seq)
	m.raise(x)
	m.goOn(&o)
	return o, api.OK
}

// enter is for picks that may follow the low mark.
func (m *model) enter(view int, low api.Mark, l []api.Pick) (Out, api.Errno) {
	var o Out
	if view <= m.view || view > 1<<20 {
		return o, api.ErrView
	}
	if low.Seq > 1<<53-9 {
		return o, api.ErrArg
	}
	m.view, m.active, m.did, m.front = view, true, nil, low.Seq+len(l)
	if low.Seq > m.low.Seq && low.Seq <= m.ran {
		m.raise(low)
	}
	for _, p := range l {
		if !m.open(p.Seq) {
			continue
		}
		d := m.learn(p.Batch)
		m.say(saying{'o', 0, view, p.Seq, d})
		if m.leader(view) != m.self {
			o.Notes = append(o.Notes, m.prepare(p.Seq, d))
		}
	}
	m.goOn(&o)
	return o, api.OK
}

// restored is what an image leaves of it.
func (m *model) restored() {
	q := m.q()
	m.said, m.rans, m.waits, m.did = nil, nil, nil, nil
	m.marks = slices.DeleteFunc(m.marks, func(x saying) bool { return x.node != m.self })
	m.front = m.ran
	p := m.p
	for _, x := range q {
		m.said = append(m.said, saying{'o', 0, x.View, x.Seq, x.Digest})
	}
	for _, x := range q {
		if x.View == m.view {
			m.front = max(m.front, x.Seq)
			if m.leader(m.view) != m.self {
				m.said = append(m.said, saying{'r', m.self, m.view, x.Seq, x.Digest})
			}
		}
	}
	for _, x := range p {
		if x.View == m.view {
			m.did = append(m.did, x.Seq)
			m.said = append(m.said, saying{'c', m.self, m.view, x.Seq, x.Digest})
		}
	}
	m.batches = m.image().Batches
}

func (m *model) image() Image {
	l := slices.DeleteFunc(slices.Clone(m.batches), func(b Batch) bool {
		return !slices.ContainsFunc(m.q(), func(s api.Stand) bool { return s.Digest == b.Digest }) && !slices.ContainsFunc(m.done, func(d api.Mark) bool { return d.Digest == b.Digest })
	})
	slices.SortFunc(l, func(a, b Batch) int { return bytes.Compare(a.Digest[:], b.Digest[:]) })
	return Image{View: m.view, Active: m.active, Low: m.low, Own: m.marksOf(m.self), P: m.p, Q: m.q(), Ran: m.ran, Done: m.done, Ended: m.ended, Batches: l}
}

func (m *model) retell() []api.Note {
	var l []api.Note
	for seq := m.low.Seq + 1; m.active && seq <= m.low.Seq+8; seq++ {
		x, is := m.stands(seq)
		if !is {
			continue
		}
		y := m.vote(api.NotePrepare, seq, x.d)
		if m.leader(m.view) == m.self {
			y.Kind, y.Digest = api.NotePropose, api.Digest{}
			y.Batch, _ = m.batch(x.d)
		}
		l = append(l, y)
		if slices.Contains(m.did, seq) {
			l = append(l, m.vote(api.NoteCommit, seq, x.d))
		}
	}
	if m.low.Seq > 0 {
		l = append(l, m.checkpoint(m.low))
	}
	for _, x := range m.marksOf(m.self) {
		l = append(l, m.checkpoint(x))
	}
	for _, x := range m.done {
		y := m.note(api.NoteRan, x.Seq)
		y.Batch, _ = m.batch(x.Digest)
		l = append(l, y)
	}
	return l
}

func (m *model) change(view int) api.Change {
	return api.Change{Node: m.self, View: view, Low: m.low.Seq, Marks: append([]api.Mark{m.low}, m.marksOf(m.self)...), P: m.p, Q: m.q()}
}

func (m *model) seen() string {
	lacks, ok := m.by(m.crew.Faults + 1)
	if !ok || lacks.Seq <= m.ran {
		lacks, ok = api.Mark{}, false
	}
	return fmt.Sprintf("%x", []any{m.view, m.ran, m.active, m.ended, len(m.waits), lacks, ok, m.image(), m.retell(), m.change(3)})
}

// play does the same at random with a normal and with its model, and counts what comes of it.
type play struct {
	*scene
	r      *rand.Rand
	m      *model
	sealed int // the number at which a seal stands
	count  map[string]int
}

func anyOf[T any](r *rand.Rand, l ...T) T {
	return l[r.Intn(len(l))]
}

// letters are mostly those that a number has in all views, so that something is agreed on.
func (p *play) letters(seq int) string {
	if seq == p.sealed {
		return "S"
	}
	switch p.r.Intn(60) {
	case 0:
		return anyOf(p.r, "a", "bc", "", "d")
	case 1:
		return anyOf(p.r, "a", "S", "bcdS")
	}
	return []string{"a", "bc", "", "def", "g", "h", "ijkl"}[seq%7]
}

func (p *play) node() int {
	if p.r.Intn(40) == 0 {
		return anyOf(p.r, 1, 2, 3, 4, 5, p.self)
	}
	if len(p.m.crew.Nodes) == 1 {
		return p.self
	}
	return p.other(p.r.Intn(len(p.m.crew.Nodes) - 1))
}

// seq is a number of the window mostly, and mostly one of the next ones.
func (p *play) seq() int {
	switch p.r.Intn(12) {
	case 0:
		return max(1, p.m.low.Seq+p.r.Intn(11)-1)
	case 1, 2, 3:
		return p.m.low.Seq + 1 + p.r.Intn(8)
	}
	return p.m.ran + 1 + p.r.Intn(2)
}

func (p *play) view() int {
	if p.r.Intn(20) == 0 {
		return max(0, p.m.view+p.r.Intn(4)-1)
	}
	return p.m.view
}

func (p *play) note() api.Note {
	seq := p.seq()
	letters, view := p.letters(seq), p.view()
	if x, is := p.m.last('o', 0, seq); is && p.r.Intn(15) > 0 {
		if b, known := p.m.batch(x.d); known {
			letters = lettersOf(b)
		}
	}
	var x api.Note
	switch p.r.Intn(20) {
	case 0, 1, 2, 3:
		x = proposes(p.m.leader(view), view, seq, letters)
		if p.r.Intn(20) == 0 {
			x.From = p.node()
		}
	case 4, 5, 6, 7, 8, 9:
		x = prepares(p.node(), view, seq, letters)
	case 10, 11, 12, 13, 14, 15:
		x = commits(p.node(), view, seq, letters)
	case 16, 17:
		x = hasRun(p.node(), seq, p.letters(seq))
	default:
		x = tells(p.node(), p.mark())
	}
	if p.r.Intn(100) == 0 && len(x.Batch) == 0 {
		x.Epoch = 2
	}
	return x
}

// mark is mostly one of the number at which all make one.
func (p *play) mark() api.Mark {
	seq := (p.m.ran - p.m.ran%4)
	if p.r.Intn(10) == 0 {
		seq = p.m.low.Seq + p.r.Intn(14) - 2
	}
	return mark(max(1, seq), byte(p.r.Intn(15)/14))
}

func (p *play) picks(low int) []api.Pick {
	var l []api.Pick
	for i := range p.r.Intn(9) {
		x := api.Pick{Seq: low + 1 + i}
		if p.r.Intn(4) > 0 {
			x.Batch = batch(p.letters(x.Seq))
			x.Digest = digestOf(x.Batch)
		}
		l = append(l, x)
	}
	return l
}

// step does one thing with both.
func (p *play) step() (got Out, e api.Errno, want Out, f api.Errno) {
	switch p.r.Intn(150) {
	case 0:
		p.n.Stop()
		p.m.active = false
	case 1, 2, 3:
		view, low := p.m.view+p.r.Intn(4), mark(max(0, anyOf(p.r, p.m.low.Seq, p.m.ran, p.m.low.Seq+p.r.Intn(9)-2)), 3)
		l := p.picks(low.Seq)
		got, e = p.n.Enter(view, low, l)
		want, f = p.m.enter(view, low, l)
	case 4:
		p.again()
	case 5:
		x := mark(p.m.ran+p.r.Intn(5)-1, 2)
		got, e = p.n.Installed(x)
		want, f = p.m.installed(x)
	case 6, 7, 8, 9, 10, 11, 12, 13, 14, 15, 16, 17:
		w := wishOf(anyOf(p.r, []byte("abcdefghijklmnopqrst")...))
		if p.r.Intn(30) == 0 {
			w.Epoch = p.r.Intn(4) - 1
		}
		got, e = p.n.Wish(w)
		want, f = p.m.wish(w)
	case 18, 19, 20, 21, 22:
		x := p.mark()
		got, e = p.n.Made(x)
		want, f = p.m.made(x)
	case 23:
		x, node := p.mark(), p.node()
		got, e = p.n.Told(node, x)
		if f = p.m.told(node, x); f == api.OK {
			p.m.goOn(&want)
		}
	default:
		x := p.note()
		got, e = p.n.Take(x)
		want, f = p.m.take(x)
	}
	return got, e, want, f
}

// again has both go on from the image.
func (p *play) again() {
	p.t.Helper()
	p.n = p.scene.again(p.n.Image()).n
	p.m.restored()
	p.count["again"]++
}

func (p *play) tally(o Out, e api.Errno) {
	for _, x := range o.Notes {
		p.count[fmt.Sprint("note ", x.Kind)]++
	}
	p.count["run"] += len(o.Runs)
	p.count[fmt.Sprint("error ", int(e))]++
	if len(o.Runs) > 1 {
		p.count["many run"]++
	}
	if p.m.ended {
		p.count["ended"]++
	}
}

// bounded looks at what is kept: P18.11.
func (p *play) bounded() {
	n := p.n
	if len(n.batches) > 4*8+8+8*len(p.m.crew.Nodes) || len(n.waits) > 32 || len(n.told) > 8*len(p.m.crew.Nodes) || len(n.commits) > 8 || len(n.done) > 8 {
		p.t.Fatalf("%d batches, %d wishes, %d told, %d commits, %d done", len(n.batches), len(n.waits), len(n.told), len(n.commits), len(n.done))
	}
}

func TestAsTheModel(t *testing.T) {
	count := map[string]int{}
	for i, c := range crews() {
		for seed := range int64(4 + 8*c.Faults) {
			r := rand.New(rand.NewSource(seed))
			self, low := anyOf(r, c.Nodes...), mark([]int{0, 3, api.MaxNumber - 40}[seed%3], byte(i))
			p := &play{begun(t, c, self, low), r, newModel(c, self, low), low.Seq + 6 + r.Intn(12), count}
			for range 500 {
				got, e, want, f := p.step()
				if e != f || fmt.Sprintf("%x", got) != fmt.Sprintf("%x", want) {
					t.Fatalf("crew %v, self %d, seed %d: %q, %d, not %q, %d", c, self, seed, p.text(got), e, p.text(want), f)
				}
				if got, want := seen(p.n), p.m.seen(); got != want {
					t.Fatalf("crew %v, self %d, seed %d: %s, not %s", c, self, seed, got, want)
				}
				for _, letters := range []string{"a", "bc", "", "def", "g", "h", "ijkl", "d", "S", "bcdS"} {
					l, is := p.n.Batch(digest(letters))
					if k, known := p.m.batch(digest(letters)); is != known || lettersOf(l) != lettersOf(k) {
						t.Fatalf("Batch(%s): %v, not %v", letters, is, known)
					}
				}
				p.tally(got, e)
				p.bounded()
			}
		}
	}
	for _, what := range []string{"note 3", "note 4", "note 5", "note 6", "run", "many run", "again", "ended", "error 2", "error 9", "error 110", "error 150", "error 151", "error 171", "error 190"} {
		if count[what] < 20 {
			t.Errorf("%s: %d times only", what, count[what])
		}
	}
	t.Log(count)
}
