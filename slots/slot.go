package slots

import (
	"bytes"
	"cmp"
	"slices"

	"bastide/api"
)

const (
	maxLow       = api.MaxNumber - api.Window
	maxProposals = 4 // of a number, in Q
)

// slot is what is known of a number.
type slot struct {
	proposed saying             // what was last
	prepared saying             // what was last: P
	q        map[api.Digest]int // what was proposed: the last view in which it was
	prepares map[int]saying     // what each node prepares
	commits  map[int]saying
}

// saying is what was said in a view; a zero one: nothing was.
type saying struct {
	said   bool
	view   int
	digest api.Digest
}

func newSlot() *slot {
	return &slot{q: map[api.Digest]int{}, prepares: map[int]saying{}, commits: map[int]saying{}}
}

// propose notes what was proposed; a new digest may take the place of the oldest one.
func (x *slot) propose(now saying) {
	x.proposed = now
	if _, known := x.q[now.digest]; !known && len(x.q) == maxProposals {
		delete(x.q, x.proposals(0)[0].Digest)
	}
	x.q[now.digest] = now.view
}

// proposals are those of Q, in their order.
func (x *slot) proposals(seq int) []api.Stand {
	var all []api.Stand
	for d, view := range x.q {
		all = append(all, api.Stand{Seq: seq, Digest: d, View: view})
	}
	slices.SortFunc(all, inOrder)
	return all
}

// mayFollow is the error of what is said behind something else by the same one.
func (now saying) mayFollow(last saying) api.Errno {
	if last == (saying{}) || last.view < now.view {
		return api.OK
	}
	if last.view > now.view {
		return api.ErrView
	}
	if last != now {
		return api.ErrOther
	}
	return api.OK
}

func (x saying) stand(seq int) api.Stand {
	return api.Stand{Seq: seq, Digest: x.digest, View: x.view}
}

// votes is how many nodes say just that.
func votes(said map[int]saying, what saying) int {
	n := 0
	for _, x := range said {
		if x == what {
			n++
		}
	}
	return n
}

func isView(view int) bool {
	return 0 <= view && view <= api.MaxView
}

// inOrder compares by numbers, then by views, then by digests.
func inOrder(a, b api.Stand) int {
	return cmp.Or(cmp.Compare(a.Seq, b.Seq), cmp.Compare(a.View, b.View), bytes.Compare(a.Digest[:], b.Digest[:]))
}
