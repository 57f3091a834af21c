package note

import (
	"bastide/api"
	"bastide/wish"
)

const (
	firstClient   = api.Steward - api.MaxClients // the least name of a client; the greatest one is the steward's
	greatestErr   = 999
	greatestLevel = 9
	greatestPlace = 999
)

// mayBe tells whether a note may be: what its kind has is within, all else is zero.
func mayBe(n api.Note) bool {
	return isWriter(n) && within(n.Group, 0, api.MaxChunks) && isEpoch(n.Epoch) && fieldsMayBe(n) && nothingElse(n)
}

// isWriter tells whether somebody writes a note who writes such.
func isWriter(n api.Note) bool {
	if n.Kind == api.NoteWish || n.Kind == api.NoteLook {
		return isClient(n.From)
	}
	return isNode(n.From)
}

// fieldsMayBe tells whether what a note's kind has may be.
func fieldsMayBe(n api.Note) bool {
	switch n.Kind {
	case api.NoteWish:
		return wished(n)
	case api.NoteLook:
		return wished(n) && n.Batch[0].Kind == api.WishRead
	case api.NoteReply:
		return isClient(n.Node) && within(n.Stamp, 0, api.MaxNumber) && answerMayBe(n.Answer)
	case api.NotePropose:
		return within(n.View, 0, api.MaxView) && isNumber(n.Seq) && isBatch(n, n.Batch)
	case api.NotePrepare, api.NoteCommit:
		return within(n.View, 0, api.MaxView) && isNumber(n.Seq)
	case api.NoteCheckpoint, api.NoteSealed:
		return isNumber(n.Seq)
	case api.NoteChange:
		return n.Change.Node == n.From && changeMayBe(n.Change)
	case api.NoteAck:
		return within(n.View, 1, api.MaxView) && isNode(n.Node) && n.Node != n.From
	case api.NoteNew:
		return within(n.View, 1, api.MaxView) && changesMayBe(n) && picksMayBe(n)
	case api.NoteFetch:
		return isNumber(n.Seq) && isPlace(n)
	case api.NotePiece:
		return isNumber(n.Seq) && isPlace(n) && len(n.Digests) <= mostDigests && len(n.Data) <= mostData
	case api.NoteOrder:
		return isCrew(n.Nodes)
	case api.NoteRan:
		return isNumber(n.Seq) && isBatch(n, n.Batch)
	case api.NoteBatch:
		return isBatch(n, n.Batch)
	}
	return false
}

// wished tells whether a note is a wish of its writer's own.
func wished(n api.Note) bool {
	return len(n.Batch) == 1 && isBatch(n, n.Batch) && n.Batch[0].Client == n.From
}

// isBatch tells whether wishes are a batch of a note's group and epoch.
func isBatch(n api.Note, l []api.Wish) bool {
	return len(l) <= api.MaxBatch && all(l, func(w api.Wish) bool {
		return wish.Check(w) == api.OK && w.Group == n.Group && w.Epoch == n.Epoch
	})
}

func answerMayBe(a api.Answer) bool {
	return within(int(a.Err), 0, greatestErr) && len(a.Data) <= mostAnswered && isEpoch(a.Epoch) &&
		len(a.Nodes) <= api.MaxCrew && all(a.Nodes, isNode)
}

func changesMayBe(n api.Note) bool {
	return within(len(n.Changes), 1, api.MaxCrew) &&
		all(n.Changes, func(c api.Change) bool { return c.View == n.View && changeMayBe(c) }) &&
		chained(n.Changes, func(ahead, c api.Change) bool { return c.Node > ahead.Node })
}

func picksMayBe(n api.Note) bool {
	return len(n.Picks) <= api.Window &&
		all(n.Picks, func(p api.Pick) bool {
			return isNumber(p.Seq) && isBatch(n, p.Batch) && (p.Digest != api.Digest{} || len(p.Batch) == 0)
		}) &&
		chained(n.Picks, func(ahead, p api.Pick) bool { return p.Seq == ahead.Seq+1 })
}

func isPlace(n api.Note) bool {
	return within(n.Level, 0, greatestLevel) && within(n.Place, 0, greatestPlace)
}

// isCrew tells whether nodes are as many as serve a chunk, and rise.
func isCrew(l []int) bool {
	return within(len(l), 1, api.MaxCrew) && all(l, isNode) && chained(l, func(ahead, n int) bool { return n > ahead })
}

// nothingElse tells whether a note has no more than its kind has.
func nothingElse(n api.Note) bool {
	showFields(wiper{}, &n)
	return n.View == 0 && n.Seq == 0 && n.Digest == api.Digest{} && n.Stamp == 0 && n.Node == 0 && n.Level == 0 && n.Place == 0 &&
		len(n.Batch) == 0 && len(n.Changes) == 0 && len(n.Picks) == 0 && len(n.Digests) == 0 && len(n.Data) == 0 && len(n.Nodes) == 0 &&
		noAnswer(n.Answer) && noChange(n.Change)
}

func noAnswer(a api.Answer) bool {
	return a.Err == api.OK && len(a.Data) == 0 && a.Epoch == 0 && len(a.Nodes) == 0
}

func noChange(c api.Change) bool {
	return c.Node == 0 && c.View == 0 && c.Low == 0 && len(c.Marks) == 0 && len(c.P) == 0 && len(c.Q) == 0
}

// all tells whether each element is such.
func all[T any](l []T, such func(T) bool) bool {
	for _, x := range l {
		if !such(x) {
			return false
		}
	}
	return true
}

// chained tells whether each element fits behind the one ahead of it.
func chained[T any](l []T, fits func(ahead, x T) bool) bool {
	for i := 1; i < len(l); i++ {
		if !fits(l[i-1], l[i]) {
			return false
		}
	}
	return true
}

func isClient(n int) bool {
	return within(n, firstClient, api.Steward)
}

func isNode(n int) bool {
	return within(n, 1, api.MaxNodes)
}

func isEpoch(n int) bool {
	return within(n, 0, api.MaxEpoch)
}

func isNumber(n int) bool {
	return within(n, 1, api.MaxNumber)
}

func within(n, least, most int) bool {
	return n >= least && n <= most
}
