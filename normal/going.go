package normal

import (
	"bytes"
	"maps"
	"slices"

	"bastide/api"
	"bastide/crew"
	"bastide/wish"
)

// goOn does what can be done now, till nothing more comes of it; behind that, what nobody asks for any more is forgotten.
func (n *Normal) goOn(o Out) Out {
	for n.commit(&o) || n.run(&o) || n.raise() || n.propose(&o) {
	}
	n.forget()
	return o
}

// commit says of what is prepared in this view that the replica commits it, once each.
func (n *Normal) commit(o *Out) bool {
	if !n.active {
		return false
	}
	some := false
	n.eachStanding(func(x api.Stand) {
		if _, said := n.commits[x.Seq]; said || !n.slots.Prepared(x.Seq) {
			return
		}
		n.slots.Commit(n.self, n.view, x.Seq, x.Digest)
		n.commits[x.Seq] = x.Digest
		o.Notes = append(o.Notes, n.vote(api.NoteCommit, x.Seq, x.Digest))
		some = true
	})
	return some
}

// run runs the next number, if it is certain what stands there.
func (n *Normal) run(o *Out) bool {
	if n.ended {
		return false
	}
	next := n.ran + 1
	d, ok := n.certain(next)
	if !ok {
		return false
	}
	batch, known := n.batches[d]
	if !known {
		return false
	}
	n.ran = next
	n.done = append(n.done, api.Mark{Seq: next, Digest: d})
	n.ended = slices.ContainsFunc(batch, func(w api.Wish) bool { return w.Kind == api.WishSeal })
	n.waits = slices.DeleteFunc(n.waits, func(w api.Wish) bool { return has(batch, w) })
	o.Runs = append(o.Runs, Run{Seq: next, Digest: d, Batch: copied(batch)})
	return true
}

// certain is what some others have run at a number, or else what is committed there.
func (n *Normal) certain(seq int) (api.Digest, bool) {
	if d, ok := n.runBySome(seq); ok {
		return d, true
	}
	x, _ := n.slots.At(seq)
	return x.Digest, n.slots.Committed(seq)
}

// runBySome is the least digest of which some others said that they ran it at a number.
func (n *Normal) runBySome(seq int) (api.Digest, bool) {
	votes := map[api.Digest]int{}
	for who, d := range n.told {
		if who.seq == seq {
			votes[d]++
		}
	}
	some := crew.Some(n.crew)
	maps.DeleteFunc(votes, func(_ api.Digest, many int) bool { return many < some })
	if len(votes) == 0 {
		return api.Digest{}, false
	}
	return slices.MinFunc(slices.Collect(maps.Keys(votes)), inOrder), true
}

// raise has the greatest stable mark be the low one, if all up to it was run.
func (n *Normal) raise() bool {
	m, ok := n.marks.Stable()
	return ok && m.Seq <= n.ran && n.raiseTo(m)
}

// raiseTo may be refused: a stable mark may have a number above which there is no window.
func (n *Normal) raiseTo(m api.Mark) bool {
	if n.slots.Raise(m.Seq) != api.OK {
		return false
	}
	n.marks.Raise(m)
	return true
}

// propose proposes what waits, as long as there is room in the window.
func (n *Normal) propose(o *Out) bool {
	if !n.active || n.ended || !n.leads() {
		return false
	}
	some := false
	for {
		next := max(n.front, n.ran) + 1
		batch := n.nextBatch()
		// A front above what is run may be out of the window, too: then nothing is proposed till the low mark rises.
		if len(batch) == 0 || next > n.windowEnd() {
			return some
		}
		d, _ := wish.BatchDigest(n.book, batch)
		// An image may have had a greater view there.
		if n.slots.Propose(n.view, next, d) != api.OK {
			return some
		}
		n.front = next
		n.batches[d] = copied(batch)
		o.Notes = append(o.Notes, n.proposal(next, batch))
		some = true
	}
}

// nextBatch are the first wishes that wait and stand nowhere yet.
func (n *Normal) nextBatch() []api.Wish {
	var standing []api.Wish
	n.eachStanding(func(x api.Stand) {
		if x.Seq > n.ran {
			standing = append(standing, n.batches[x.Digest]...)
		}
	})
	free := slices.DeleteFunc(slices.Clone(n.waits), func(w api.Wish) bool { return has(standing, w) })
	return free[:min(len(free), api.MaxBatch)]
}

// forget takes out what is run, what is below the window, and batches that are not known for any reason any more.
func (n *Normal) forget() {
	low := n.slots.Low()
	n.done = slices.DeleteFunc(n.done, func(m api.Mark) bool { return m.Seq <= low })
	maps.DeleteFunc(n.commits, func(seq int, _ api.Digest) bool { return seq <= low })
	maps.DeleteFunc(n.told, func(who teller, _ api.Digest) bool { return who.seq <= n.ran })
	needed := lasting(n.slots.Q(), n.done)
	for _, d := range n.told {
		needed[d]++
	}
	maps.DeleteFunc(n.batches, func(d api.Digest, _ []api.Wish) bool { return needed[d] == 0 })
}

// eachStanding goes over the window's numbers, rising, at which what was proposed last was so in this view.
func (n *Normal) eachStanding(do func(x api.Stand)) {
	for seq := n.slots.Low() + 1; seq <= n.windowEnd(); seq++ {
		if x, ok := n.slots.At(seq); ok && x.View == n.view {
			do(x)
		}
	}
}

func (n *Normal) windowEnd() int {
	return n.slots.Low() + api.Window
}

// lasting is how often digests are among what was proposed and what was run: their batches are known as long as they are there.
func lasting(q []api.Stand, done []api.Mark) map[api.Digest]int {
	many := map[api.Digest]int{}
	for _, x := range q {
		many[x.Digest]++
	}
	for _, m := range done {
		many[m.Digest]++
	}
	return many
}

func inOrder(a, b api.Digest) int {
	return bytes.Compare(a[:], b[:])
}
