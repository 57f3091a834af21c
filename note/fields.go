package note

import "bastide/api"

// How many of what a note has at most, where package api does not say it.
const (
	mostAnswered = 16 // bytes of an answer's Data
	mostMarks    = 5
	mostOfOne    = 4 // of Q, of the same number
	mostQ        = mostOfOne * api.Window
	mostDigests  = 8
	mostData     = 1024 // bytes of a piece's Data
)

// scribe is shown a note's fields, in the order of its bytes: what writes takes what they are, what reads puts in what they shall be.
type scribe interface {
	number(n *int)
	digest(d *api.Digest)
	text(b *[]byte, most int)
	batch(l *[]api.Wish)
	// count is shown how many elements a list has, and answers how many of them are to be shown.
	count(many, most int) int
}

func showNote(s scribe, n *api.Note) {
	s.number(&n.Kind)
	s.number(&n.From)
	s.number(&n.Group)
	s.number(&n.Epoch)
	showFields(s, n)
}

// showFields shows what a note of its kind has behind what all notes have.
func showFields(s scribe, n *api.Note) {
	switch n.Kind {
	case api.NotePropose:
		s.number(&n.View)
		fallthrough
	case api.NoteRan:
		s.number(&n.Seq)
		fallthrough
	case api.NoteWish, api.NoteLook, api.NoteBatch:
		s.batch(&n.Batch)
	case api.NotePrepare, api.NoteCommit:
		s.number(&n.View)
		fallthrough
	case api.NoteCheckpoint, api.NoteSealed:
		s.number(&n.Seq)
		s.digest(&n.Digest)
	case api.NoteReply:
		s.number(&n.Node)
		s.number(&n.Stamp)
		showAnswer(s, &n.Answer)
	case api.NoteChange:
		showChange(s, &n.Change)
	case api.NoteAck:
		s.number(&n.View)
		s.number(&n.Node)
		s.digest(&n.Digest)
	case api.NoteNew:
		s.number(&n.View)
		showList(s, &n.Changes, api.MaxCrew, func(c *api.Change) { showChange(s, c) })
		showPicks(s, &n.Picks)
	case api.NoteFetch:
		showPlace(s, n)
	case api.NotePiece:
		showPlace(s, n)
		showList(s, &n.Digests, mostDigests, s.digest)
		s.text(&n.Data, mostData)
	case api.NoteOrder:
		showList(s, &n.Nodes, api.MaxCrew, s.number)
	}
}

func showAnswer(s scribe, a *api.Answer) {
	e := int(a.Err)
	s.number(&e)
	a.Err = api.Errno(e)
	s.text(&a.Data, mostAnswered)
	s.number(&a.Epoch)
	showList(s, &a.Nodes, api.MaxCrew, s.number)
}

func showChange(s scribe, c *api.Change) {
	s.number(&c.Node)
	s.number(&c.View)
	s.number(&c.Low)
	showList(s, &c.Marks, mostMarks, func(m *api.Mark) {
		s.number(&m.Seq)
		s.digest(&m.Digest)
	})
	showStands(s, &c.P, api.Window)
	showStands(s, &c.Q, mostQ)
}

func showStands(s scribe, l *[]api.Stand, most int) {
	showList(s, l, most, func(x *api.Stand) {
		s.number(&x.Seq)
		s.digest(&x.Digest)
		s.number(&x.View)
	})
}

func showPicks(s scribe, l *[]api.Pick) {
	showList(s, l, api.Window, func(p *api.Pick) {
		s.number(&p.Seq)
		s.digest(&p.Digest)
		s.batch(&p.Batch)
	})
}

// showPlace shows which node of which tree a note is about.
func showPlace(s scribe, n *api.Note) {
	s.number(&n.Seq)
	s.digest(&n.Digest)
	s.number(&n.Level)
	s.number(&n.Place)
}

// showList shows how many elements there are, and each of them; a list that shall have another number of them is made anew, so that the one that was handed in stays as it is.
func showList[T any](s scribe, l *[]T, most int, show func(*T)) {
	if many := s.count(len(*l), most); many != len(*l) {
		*l = make([]T, many)
	}
	for i := range *l {
		show(&(*l)[i])
	}
}
