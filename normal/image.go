package normal

import (
	"maps"
	"slices"

	"bastide/api"
	"bastide/ink"
	"bastide/wish"
)

const maxOwn = 4 // checkpoints of the replica itself

// Image is what must not be forgotten.
func (n *Normal) Image() Image {
	if n.none() {
		return Image{}
	}
	m := Image{
		View:   n.view,
		Active: n.active,
		Low:    n.marks.Low(),
		Own:    n.marks.Of(n.self),
		P:      n.slots.P(),
		Q:      n.slots.Q(),
		Ran:    n.ran,
		Done:   slices.Clone(n.done),
		Ended:  n.ended,
	}
	for _, d := range slices.SortedFunc(maps.Keys(lasting(m.Q, m.Done)), inOrder) {
		if l, known := n.batches[d]; known {
			m.Batches = append(m.Batches, Batch{Digest: d, Wishes: copied(l)})
		}
	}
	return m
}

// Change is what is said when the view is left, to another one.
func (n *Normal) Change(view int) api.Change {
	if n.none() {
		return api.Change{}
	}
	return api.Change{
		Node:  n.self,
		View:  view,
		Low:   n.slots.Low(),
		Marks: n.ownMarks(),
		P:     n.slots.P(),
		Q:     n.slots.Q(),
	}
}

// Restore goes on from an image.
func Restore(book *ink.Book, c api.Crew, self, group, epoch int, m Image) (*Normal, api.Errno) {
	n, e := New(book, c, self, group, epoch, m.Low)
	if e != api.OK {
		return nil, e
	}
	if m.View < 0 || m.View > api.MaxView || !n.takeMarks(m.Own) || n.slots.Restore(m.P, m.Q) != api.OK ||
		!n.mayHaveRun(m.Ran, m.Done) || !n.takeBatches(m) {
		return nil, api.ErrArg
	}
	n.view, n.active = m.View, m.Active
	n.ran, n.done, n.ended = m.Ran, slices.Clone(m.Done), m.Ended
	n.sayAgain()
	return n, api.OK
}

// takeMarks notes its own checkpoints; false, unless they may be.
func (n *Normal) takeMarks(own []api.Mark) bool {
	if len(own) > maxOwn {
		return false
	}
	for i, x := range own {
		if i > 0 && x.Seq <= own[i-1].Seq || n.marks.Vote(n.self, x) != api.OK {
			return false
		}
	}
	return true
}

// mayHaveRun tells whether what was run are all numbers from the low mark's up to one of the window.
func (n *Normal) mayHaveRun(ran int, done []api.Mark) bool {
	low := n.slots.Low()
	if ran < low || ran > n.windowEnd() || len(done) != ran-low {
		return false
	}
	for i, m := range done {
		if m.Seq != low+1+i {
			return false
		}
	}
	return true
}

// takeBatches notes an image's batches; false, unless they may be.
func (n *Normal) takeBatches(m Image) bool {
	needed := lasting(m.Q, m.Done)
	for i, x := range m.Batches {
		if needed[x.Digest] == 0 || i > 0 && inOrder(m.Batches[i-1].Digest, x.Digest) >= 0 {
			return false
		}
		if d, e := wish.BatchDigest(n.book, x.Wishes); e != api.OK || d != x.Digest {
			return false
		}
		n.batches[x.Digest] = copied(x.Wishes)
	}
	return true
}

// sayAgain has it prepare what was proposed in its view, and commit what it prepared there, as it said ahead of the image.
func (n *Normal) sayAgain() {
	n.eachStanding(func(x api.Stand) {
		n.front = max(n.front, x.Seq)
		if !n.leads() {
			n.slots.Prepare(n.self, x.View, x.Seq, x.Digest)
		}
	})
	for _, x := range n.slots.P() {
		if x.View == n.view {
			n.slots.Commit(n.self, x.View, x.Seq, x.Digest)
			n.commits[x.Seq] = x.Digest
		}
	}
}
