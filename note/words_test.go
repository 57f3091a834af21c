package note

import (
	"bytes"
	"reflect"
	"slices"

	"bastide/api"
)

// The chapter's words, read anew: what may be, what its bytes are, what bytes say.

func in(n, least, most int) bool {
	return least <= n && n <= most
}

// mayWish tells by the table of chapter 11 whether a wish may be.
func mayWish(w api.Wish) bool {
	want := api.Wish{Kind: w.Kind, Epoch: w.Epoch, Group: w.Group}
	ok := in(w.Epoch, 0, 1048576)
	if in(w.Kind, 1, 4) {
		ok = ok && in(w.Client, 31, 34) && in(w.Stamp, 1, 9007199254740991)
		want.Client, want.Stamp, want.Block = w.Client, w.Stamp, w.Block
	}
	switch w.Kind {
	case 1:
		ok = ok && in(w.Group, 1, 2) && in(w.Block, 0, 7)
	case 2:
		ok = ok && in(w.Group, 1, 2) && in(w.Block, 0, 7) && len(w.Data) == 16
		want.Data = w.Data
	case 3:
		ok = ok && w.Group == 0 && w.Epoch == 0 && in(w.Block, 1, 2)
	case 4:
		ok = ok && w.Group == 0 && w.Epoch == 0 && in(w.Block, 1, 2) && in(w.Old, 1, 28) && in(w.New, 1, 28) && w.Old != w.New
		want.Old, want.New = w.Old, w.New
	case 5:
		ok = ok && in(w.Group, 1, 2) && (len(w.Next) == 1 || len(w.Next) == 4 || len(w.Next) == 7)
		for i, n := range w.Next {
			ok = ok && in(n, 1, 28) && (i == 0 || n > w.Next[i-1])
		}
		want.Next = w.Next
	default:
		ok = false
	}
	return ok && reflect.DeepEqual(plainWish(w), plainWish(want))
}

// mayBatch tells whether wishes are such as a proposal of that group and epoch has.
func mayBatch(l []api.Wish, group, epoch int) bool {
	ok := len(l) <= 4
	for _, w := range l {
		ok = ok && mayWish(w) && w.Group == group && w.Epoch == epoch
	}
	return ok
}

// mayChange tells by the chapter's words whether a change may be.
func mayChange(c api.Change) bool {
	if !in(c.Node, 1, 28) || !in(c.View, 1, 1048576) || !in(c.Low, 0, 9007199254740983) || !in(len(c.Marks), 1, 5) || len(c.P) > 8 || len(c.Q) > 32 {
		return false
	}
	ok := c.Marks[0].Seq == c.Low
	for i, m := range c.Marks {
		ok = ok && m.Seq <= 9007199254740991 && (i == 0 || m.Seq > c.Marks[i-1].Seq)
	}
	for i, s := range c.P {
		ok = ok && in(s.Seq, c.Low+1, c.Low+8) && 0 <= s.View && s.View < c.View && (i == 0 || s.Seq > c.P[i-1].Seq)
	}
	for i, s := range c.Q {
		ok = ok && in(s.Seq, c.Low+1, c.Low+8) && 0 <= s.View && s.View < c.View
		if i > 0 {
			a := c.Q[i-1]
			ok = ok && (s.Seq > a.Seq || s.Seq == a.Seq && (s.View > a.View || s.View == a.View && bytes.Compare(s.Digest[:], a.Digest[:]) > 0))
		}
		digests, many := map[api.Digest]bool{}, 0
		for _, x := range c.Q {
			if x.Seq == s.Seq {
				digests[x.Digest] = true
				many++
			}
		}
		ok = ok && many <= 4 && len(digests) == many
	}
	return ok
}

// mayNote tells by the chapter's table whether a note may be.
func mayNote(n api.Note) bool {
	ok := in(n.Kind, 1, 16) && in(n.Group, 0, 2) && in(n.Epoch, 0, 1048576)
	if n.Kind == 1 || n.Kind == 14 {
		ok = ok && in(n.From, 31, 34)
	} else {
		ok = ok && in(n.From, 1, 28)
	}
	want := api.Note{Kind: n.Kind, From: n.From, Group: n.Group, Epoch: n.Epoch} // what is named, all else zero
	seq := func() { want.Seq = n.Seq; ok = ok && in(n.Seq, 1, 9007199254740991) }
	view := func(least int) { want.View = n.View; ok = ok && in(n.View, least, 1048576) }
	batch := func() { want.Batch = n.Batch; ok = ok && mayBatch(n.Batch, n.Group, n.Epoch) }
	switch n.Kind {
	case 1, 14:
		batch()
		ok = ok && len(n.Batch) == 1 && n.Batch[0].Client == n.From && (n.Kind == 1 || n.Batch[0].Kind == 1)
	case 2:
		want.Node, want.Stamp, want.Answer = n.Node, n.Stamp, n.Answer
		ok = ok && in(n.Node, 31, 34) && in(n.Stamp, 0, 9007199254740991) && in(int(n.Answer.Err), 0, 999)
		ok = ok && len(n.Answer.Data) <= 16 && in(n.Answer.Epoch, 0, 1048576) && len(n.Answer.Nodes) <= 7
		for _, x := range n.Answer.Nodes {
			ok = ok && in(x, 1, 28)
		}
	case 3:
		view(0)
		seq()
		batch()
	case 4, 5:
		view(0)
		seq()
		want.Digest = n.Digest
	case 6, 13:
		seq()
		want.Digest = n.Digest
	case 7:
		want.Change = n.Change
		ok = ok && mayChange(n.Change) && n.Change.Node == n.From
	case 8:
		view(1)
		want.Node, want.Digest = n.Node, n.Digest
		ok = ok && in(n.Node, 1, 28) && n.Node != n.From
	case 9:
		view(1)
		want.Changes, want.Picks = n.Changes, n.Picks
		ok = ok && in(len(n.Changes), 1, 7) && len(n.Picks) <= 8
		for i, c := range n.Changes {
			ok = ok && mayChange(c) && c.View == n.View && (i == 0 || c.Node > n.Changes[i-1].Node)
		}
		for i, p := range n.Picks {
			ok = ok && in(p.Seq, 1, 9007199254740991) && (i == 0 || p.Seq == n.Picks[i-1].Seq+1)
			ok = ok && mayBatch(p.Batch, n.Group, n.Epoch) && (len(p.Batch) == 0 || p.Digest != api.Digest{})
		}
	case 10, 11:
		seq()
		want.Digest, want.Level, want.Place = n.Digest, n.Level, n.Place
		ok = ok && in(n.Level, 0, 9) && in(n.Place, 0, 999)
		if n.Kind == 11 {
			want.Digests, want.Data = n.Digests, n.Data
			ok = ok && len(n.Digests) <= 8 && len(n.Data) <= 1024
		}
	case 12:
		want.Nodes = n.Nodes
		ok = ok && in(len(n.Nodes), 1, 7)
		for i, x := range n.Nodes {
			ok = ok && in(x, 1, 28) && (i == 0 || x > n.Nodes[i-1])
		}
	case 15:
		seq()
		batch()
	case 16:
		batch()
	}
	return ok && alike(n, want)
}

// plain is what is handed in without the unlikeness of nil and empty lists; nothing of it is shared.
func plain(n api.Note) api.Note {
	n.Batch = plainBatch(n.Batch)
	n.Answer.Data = append([]byte{}, n.Answer.Data...)
	n.Answer.Nodes = append([]int{}, n.Answer.Nodes...)
	n.Change = plainChange(n.Change)
	n.Changes = append([]api.Change{}, n.Changes...)
	for i, c := range n.Changes {
		n.Changes[i] = plainChange(c)
	}
	n.Picks = append([]api.Pick{}, n.Picks...)
	for i, p := range n.Picks {
		n.Picks[i].Batch = plainBatch(p.Batch)
	}
	n.Digests = append([]api.Digest{}, n.Digests...)
	n.Data = append([]byte{}, n.Data...)
	n.Nodes = append([]int{}, n.Nodes...)
	return n
}

func plainChange(c api.Change) api.Change {
	c.Marks = append([]api.Mark{}, c.Marks...)
	c.P = append([]api.Stand{}, c.P...)
	c.Q = append([]api.Stand{}, c.Q...)
	return c
}

func plainBatch(l []api.Wish) []api.Wish {
	out := append([]api.Wish{}, l...)
	for i, w := range out {
		out[i] = plainWish(w)
	}
	return out
}

func plainWish(w api.Wish) api.Wish {
	w.Data = append([]byte{}, w.Data...)
	w.Next = append([]int{}, w.Next...)
	return w
}

func alike(a, b api.Note) bool {
	return reflect.DeepEqual(plain(a), plain(b))
}

// num and str are bytes by the words of chapter 1; of any number of at most 7 bytes, not only of those that may be.
func num(n int) []byte {
	var low []byte
	for ; n > 0; n /= 256 {
		low = append([]byte{byte(n % 256)}, low...)
	}
	return append([]byte{byte(len(low))}, low...)
}

func nums(l ...int) []byte {
	var out []byte
	for _, n := range l {
		out = append(out, num(n)...)
	}
	return out
}

func str(b []byte) []byte {
	return append(num(len(b)), b...)
}

func join(l ...[]byte) []byte {
	return bytes.Join(l, nil)
}

func sayWish(w api.Wish) []byte {
	return join(nums(w.Kind, w.Client, w.Stamp, w.Group, w.Epoch, w.Block), str(w.Data), nums(w.Old, w.New, len(w.Next)), nums(w.Next...))
}

func sayBatch(l []api.Wish) []byte {
	out := num(len(l))
	for _, w := range l {
		out = append(out, str(sayWish(w))...)
	}
	return str(out)
}

func sayStands(l []api.Stand) []byte {
	out := num(len(l))
	for _, s := range l {
		out = join(out, num(s.Seq), s.Digest[:], num(s.View))
	}
	return out
}

func sayChange(c api.Change) []byte {
	out := nums(c.Node, c.View, c.Low, len(c.Marks))
	for _, m := range c.Marks {
		out = join(out, num(m.Seq), m.Digest[:])
	}
	return join(out, sayStands(c.P), sayStands(c.Q))
}

// say is a note's bytes by the chapter's words, also of one that may not be.
func say(n api.Note) []byte {
	out := nums(n.Kind, n.From, n.Group, n.Epoch)
	add := func(l ...[]byte) { out = join(out, join(l...)) }
	switch n.Kind {
	case 1, 14, 16:
		add(sayBatch(n.Batch))
	case 2:
		add(nums(n.Node, n.Stamp, int(n.Answer.Err)), str(n.Answer.Data), nums(n.Answer.Epoch, len(n.Answer.Nodes)), nums(n.Answer.Nodes...))
	case 3:
		add(nums(n.View, n.Seq), sayBatch(n.Batch))
	case 4, 5:
		add(nums(n.View, n.Seq), n.Digest[:])
	case 6, 13:
		add(num(n.Seq), n.Digest[:])
	case 7:
		add(sayChange(n.Change))
	case 8:
		add(nums(n.View, n.Node), n.Digest[:])
	case 9:
		add(nums(n.View, len(n.Changes)))
		for _, c := range n.Changes {
			add(sayChange(c))
		}
		add(num(len(n.Picks)))
		for _, p := range n.Picks {
			add(num(p.Seq), p.Digest[:], sayBatch(p.Batch))
		}
	case 10, 11:
		add(num(n.Seq), n.Digest[:], nums(n.Level, n.Place))
		if n.Kind == 11 {
			add(num(len(n.Digests)))
			for _, d := range n.Digests {
				add(d[:])
			}
			add(str(n.Data))
		}
	case 12:
		add(num(len(n.Nodes)), nums(n.Nodes...))
	case 15:
		add(num(n.Seq), sayBatch(n.Batch))
	}
	return out
}

// sayable tells whether say can say a note: whether all numbers are from 0 to below 2^56.
func sayable(n api.Note) bool {
	l := []int{n.Kind, n.From, n.Group, n.Epoch, n.View, n.Seq, n.Stamp, n.Node, n.Level, n.Place, int(n.Answer.Err), n.Answer.Epoch}
	l = append(append(l, n.Answer.Nodes...), n.Nodes...)
	wishes := slices.Clone(n.Batch)
	for _, c := range append([]api.Change{n.Change}, n.Changes...) {
		l = append(l, c.Node, c.View, c.Low)
		for _, m := range c.Marks {
			l = append(l, m.Seq)
		}
		for _, s := range slices.Concat(c.P, c.Q) {
			l = append(l, s.Seq, s.View)
		}
	}
	for _, p := range n.Picks {
		l = append(l, p.Seq)
		wishes = append(wishes, p.Batch...)
	}
	for _, w := range wishes {
		l = append(append(l, w.Kind, w.Client, w.Stamp, w.Group, w.Epoch, w.Block, w.Old, w.New), w.Next...)
	}
	return !slices.ContainsFunc(l, func(n int) bool { return n < 0 || n >= 1<<56 })
}

// saying is bytes that are read by the chapter's words; what can't be read is thrown.
type saying struct {
	rest []byte
}

type unreadable struct{}

func (s *saying) fix(n int) []byte {
	if n > len(s.rest) {
		panic(unreadable{})
	}
	out := s.rest[:n]
	s.rest = s.rest[n:]
	return out
}

func (s *saying) num() int {
	b := s.fix(int(s.fix(1)[0]))
	if len(b) > 7 || len(b) > 0 && b[0] == 0 {
		panic(unreadable{})
	}
	n := 0
	for _, x := range b {
		n = n*256 + int(x)
	}
	if n > 9007199254740991 {
		panic(unreadable{})
	}
	return n
}

func (s *saying) str() []byte {
	return s.fix(s.num())
}

func (s *saying) dig() api.Digest {
	return api.Digest(s.fix(32))
}

func (s *saying) nums() (l []int) {
	for range s.num() {
		l = append(l, s.num())
	}
	return l
}

func (s *saying) end() {
	if len(s.rest) > 0 {
		panic(unreadable{})
	}
}

func (s *saying) batch() (l []api.Wish) {
	in := saying{s.str()}
	for range in.num() {
		of := saying{in.str()}
		w := api.Wish{Kind: of.num(), Client: of.num(), Stamp: of.num(), Group: of.num(), Epoch: of.num(), Block: of.num(), Data: of.str(), Old: of.num(), New: of.num(), Next: of.nums()}
		of.end()
		l = append(l, w)
	}
	in.end()
	return l
}

func (s *saying) stands() (l []api.Stand) {
	for range s.num() {
		l = append(l, api.Stand{Seq: s.num(), Digest: s.dig(), View: s.num()})
	}
	return l
}

func (s *saying) change() api.Change {
	c := api.Change{Node: s.num(), View: s.num(), Low: s.num()}
	for range s.num() {
		c.Marks = append(c.Marks, api.Mark{Seq: s.num(), Digest: s.dig()})
	}
	c.P, c.Q = s.stands(), s.stands()
	return c
}

// heard is the note that bytes say by the chapter's words; false, if they say none that may be.
func heard(b []byte) (n api.Note, ok bool) {
	defer func() {
		if x := recover(); x != nil {
			_ = x.(unreadable)
			n, ok = api.Note{}, false
		}
	}()
	s := saying{b}
	n = api.Note{Kind: s.num(), From: s.num(), Group: s.num(), Epoch: s.num()}
	switch n.Kind {
	case 1, 14, 16:
		n.Batch = s.batch()
	case 2:
		n.Node, n.Stamp = s.num(), s.num()
		n.Answer = api.Answer{Err: api.Errno(s.num()), Data: s.str(), Epoch: s.num(), Nodes: s.nums()}
	case 3:
		n.View, n.Seq, n.Batch = s.num(), s.num(), s.batch()
	case 4, 5:
		n.View, n.Seq, n.Digest = s.num(), s.num(), s.dig()
	case 6, 13:
		n.Seq, n.Digest = s.num(), s.dig()
	case 7:
		n.Change = s.change()
	case 8:
		n.View, n.Node, n.Digest = s.num(), s.num(), s.dig()
	case 9:
		n.View = s.num()
		for range s.num() {
			n.Changes = append(n.Changes, s.change())
		}
		for range s.num() {
			n.Picks = append(n.Picks, api.Pick{Seq: s.num(), Digest: s.dig(), Batch: s.batch()})
		}
	case 10, 11:
		n.Seq, n.Digest, n.Level, n.Place = s.num(), s.dig(), s.num(), s.num()
		if n.Kind == 11 {
			for range s.num() {
				n.Digests = append(n.Digests, s.dig())
			}
			n.Data = s.str()
		}
	case 12:
		n.Nodes = s.nums()
	case 15:
		n.Seq, n.Batch = s.num(), s.batch()
	}
	s.end()
	if !mayNote(n) {
		return api.Note{}, false
	}
	return n, true
}
