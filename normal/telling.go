package normal

import (
	"slices"

	"bastide/api"
)

// Retell is what is told again.
func (n *Normal) Retell() []api.Note {
	if n.none() {
		return nil
	}
	var l []api.Note
	if n.active {
		n.eachStanding(func(x api.Stand) { l = append(l, n.saidOf(x)...) })
	}
	for _, m := range n.ownMarks() {
		if m.Seq > 0 {
			l = append(l, n.checkpoint(m))
		}
	}
	for _, m := range n.done {
		if batch, known := n.batches[m.Digest]; known {
			l = append(l, n.hasRun(m.Seq, batch))
		}
	}
	return l
}

// saidOf is what it has said of what was proposed in its view.
func (n *Normal) saidOf(x api.Stand) []api.Note {
	var l []api.Note
	if !n.leads() {
		l = append(l, n.vote(api.NotePrepare, x.Seq, x.Digest))
	} else if batch, known := n.batches[x.Digest]; known {
		l = append(l, n.proposal(x.Seq, batch))
	}
	if d, said := n.commits[x.Seq]; said {
		l = append(l, n.vote(api.NoteCommit, x.Seq, d))
	}
	return l
}

// ownMarks are its low mark, and its own ones.
func (n *Normal) ownMarks() []api.Mark {
	return slices.Insert(n.marks.Of(n.self), 0, n.marks.Low())
}

// own is a note of the replica's own.
func (n *Normal) own(kind, seq int) api.Note {
	return api.Note{Kind: kind, From: n.self, Group: n.group, Epoch: n.epoch, Seq: seq}
}

// vote is a NotePrepare or a NoteCommit, in its view.
func (n *Normal) vote(kind, seq int, d api.Digest) api.Note {
	x := n.own(kind, seq)
	x.View, x.Digest = n.view, d
	return x
}

func (n *Normal) proposal(seq int, batch []api.Wish) api.Note {
	x := n.own(api.NotePropose, seq)
	x.View, x.Batch = n.view, copied(batch)
	return x
}

func (n *Normal) checkpoint(m api.Mark) api.Note {
	x := n.own(api.NoteCheckpoint, m.Seq)
	x.Digest = m.Digest
	return x
}

func (n *Normal) hasRun(seq int, batch []api.Wish) api.Note {
	x := n.own(api.NoteRan, seq)
	x.Batch = copied(batch)
	return x
}
