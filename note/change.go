package note

import (
	"bytes"
	"cmp"

	"bastide/api"
)

// changeMayBe tells whether a change may be.
func changeMayBe(c api.Change) bool {
	return isNode(c.Node) && within(c.View, 1, api.MaxView) && within(c.Low, 0, api.MaxNumber-api.Window) &&
		marksMayBe(c) && preparedMayBe(c) && proposedMayBe(c)
}

// marksMayBe tells whether a change's checkpoints rise from its low mark.
func marksMayBe(c api.Change) bool {
	return within(len(c.Marks), 1, mostMarks) && c.Marks[0].Seq == c.Low &&
		all(c.Marks, func(m api.Mark) bool { return m.Seq <= api.MaxNumber }) &&
		chained(c.Marks, func(ahead, m api.Mark) bool { return m.Seq > ahead.Seq })
}

func preparedMayBe(c api.Change) bool {
	return len(c.P) <= api.Window && standIn(c, c.P) &&
		chained(c.P, func(ahead, s api.Stand) bool { return s.Seq > ahead.Seq })
}

func proposedMayBe(c api.Change) bool {
	return len(c.Q) <= mostQ && standIn(c, c.Q) && fewUnlike(c.Q) &&
		chained(c.Q, func(ahead, s api.Stand) bool { return order(ahead, s) < 0 })
}

// standIn tells whether stands are in the window of a change, of views that it leaves behind.
func standIn(c api.Change, l []api.Stand) bool {
	return all(l, func(s api.Stand) bool {
		return within(s.Seq, c.Low+1, c.Low+api.Window) && within(s.View, 0, c.View-1)
	})
}

// fewUnlike tells whether of each number few digests stand, none of them twice.
func fewUnlike(l []api.Stand) bool {
	for i, s := range l {
		same := 1
		for _, t := range l[:i] {
			if t.Seq == s.Seq && t.Digest == s.Digest {
				return false
			}
			if t.Seq == s.Seq {
				same++
			}
		}
		if same > mostOfOne {
			return false
		}
	}
	return true
}

// order is below 0 if a stands ahead of b in a list of what was proposed.
func order(a, b api.Stand) int {
	return cmp.Or(cmp.Compare(a.Seq, b.Seq), cmp.Compare(a.View, b.View), bytes.Compare(a.Digest[:], b.Digest[:]))
}
