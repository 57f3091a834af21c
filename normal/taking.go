package normal

import (
	"bastide/api"
	"bastide/crew"
	"bastide/note"
	"bastide/wish"
)

// Take takes a note.
func (n *Normal) Take(x api.Note) (Out, api.Errno) {
	if n.none() {
		return Out{}, api.ErrNil
	}
	do := n.doings()[x.Kind]
	if do == nil || note.Check(x) != api.OK {
		return Out{}, api.ErrArg
	}
	if x.Group != n.group || x.Epoch != n.epoch {
		return Out{}, api.ErrEpoch
	}
	if x.From == n.self || !crew.Has(n.crew, x.From) {
		return Out{}, api.ErrCrew
	}
	return do(x)
}

// doings are what is done with a note, by its kind.
func (n *Normal) doings() map[int]func(x api.Note) (Out, api.Errno) {
	return map[int]func(x api.Note) (Out, api.Errno){
		api.NotePropose:    n.takePropose,
		api.NotePrepare:    n.takePrepare,
		api.NoteCommit:     n.takeCommit,
		api.NoteCheckpoint: n.takeCheckpoint,
		api.NoteRan:        n.takeRan,
	}
}

func (n *Normal) takePropose(x api.Note) (Out, api.Errno) {
	if !n.active || x.View != n.view || x.From != crew.Leader(n.crew, n.view) {
		return Out{}, api.ErrView
	}
	d, e := wish.BatchDigest(n.book, x.Batch)
	if e != api.OK {
		return Out{}, e
	}
	now := api.Stand{Seq: x.Seq, Digest: d, View: x.View}
	was, _ := n.slots.At(x.Seq)
	if e := n.slots.Propose(now.View, now.Seq, now.Digest); e != api.OK {
		return Out{}, e
	}
	n.batches[d] = copied(x.Batch)
	var o Out
	if was != now {
		n.prepare(now, &o)
	}
	return n.goOn(o), api.OK
}

func (n *Normal) takePrepare(x api.Note) (Out, api.Errno) {
	return n.takeVote(x, n.slots.Prepare)
}

func (n *Normal) takeCommit(x api.Note) (Out, api.Errno) {
	return n.takeVote(x, n.slots.Commit)
}

// takeVote notes what a node says of a proposal, by the way that is handed in.
func (n *Normal) takeVote(x api.Note, say func(node, view, seq int, d api.Digest) api.Errno) (Out, api.Errno) {
	if x.View < n.view {
		return Out{}, api.ErrView
	}
	if e := say(x.From, x.View, x.Seq, x.Digest); e != api.OK {
		return Out{}, e
	}
	return n.goOn(Out{}), api.OK
}

func (n *Normal) takeCheckpoint(x api.Note) (Out, api.Errno) {
	return n.Told(x.From, api.Mark{Seq: x.Seq, Digest: x.Digest})
}

func (n *Normal) takeRan(x api.Note) (Out, api.Errno) {
	if x.Seq <= n.ran || x.Seq > n.windowEnd() {
		return Out{}, api.ErrRange
	}
	who := teller{seq: x.Seq, node: x.From}
	if _, said := n.told[who]; said {
		return Out{}, api.OK
	}
	d, e := wish.BatchDigest(n.book, x.Batch)
	if e != api.OK {
		return Out{}, e
	}
	n.told[who] = d
	n.batches[d] = copied(x.Batch)
	return n.goOn(Out{}), api.OK
}

// mayFollow tells whether picks are of the numbers behind a mark that may be the low one.
func mayFollow(low api.Mark, picks []api.Pick) bool {
	if low.Seq < 0 || low.Seq > maxLow || len(picks) > api.Window {
		return false
	}
	for i, p := range picks {
		if p.Seq != low.Seq+1+i {
			return false
		}
	}
	return true
}

// picked are the batches that are picked; false, unless each may be, and is that of its digest (a zero one: none).
func (n *Normal) picked(picks []api.Pick) ([]Batch, bool) {
	var l []Batch
	for _, p := range picks {
		d, e := wish.BatchDigest(n.book, p.Batch)
		null := p.Digest == (api.Digest{}) && len(p.Batch) == 0
		if e != api.OK || p.Digest != d && !null {
			return nil, false
		}
		l = append(l, Batch{Digest: d, Wishes: p.Batch})
	}
	return l, true
}

// stand has a batch be proposed in the new view, if its number is in the window.
func (n *Normal) stand(seq int, x Batch, o *Out) {
	now := api.Stand{Seq: seq, Digest: x.Digest, View: n.view}
	if n.slots.Propose(now.View, now.Seq, now.Digest) != api.OK {
		return
	}
	n.batches[x.Digest] = copied(x.Wishes)
	if !n.leads() {
		n.prepare(now, o)
	}
}

// prepare says that the replica prepares what was proposed in its view.
func (n *Normal) prepare(x api.Stand, o *Out) {
	n.slots.Prepare(n.self, x.View, x.Seq, x.Digest)
	o.Notes = append(o.Notes, n.vote(api.NotePrepare, x.Seq, x.Digest))
}
