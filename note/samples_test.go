package note

import (
	"bytes"
	"math"
	"math/rand"
	"slices"

	"bastide/api"
)

// Notes to try.

// dig is a digest; unlike numbers have unlike ones, in their order.
func dig(n int) api.Digest {
	return api.Digest{0: byte(n >> 8), 5: 7, 31: byte(n)}
}

func data(n int) []byte {
	b := make([]byte, n)
	for i := range b {
		b[i] = byte(i*7 + 1)
	}
	return b
}

func aRead() api.Wish {
	return api.Wish{Kind: 1, Client: 31, Stamp: 5, Group: 1, Epoch: 2, Block: 3}
}

func aWrite() api.Wish {
	return api.Wish{Kind: 2, Client: 33, Stamp: 6, Group: 1, Epoch: 2, Block: 7, Data: data(16)}
}

func aSeal() api.Wish {
	return api.Wish{Kind: 5, Group: 1, Epoch: 2, Next: []int{5, 6, 7, 9}}
}

// aChange is one that has some of each list.
func aChange(node int) api.Change {
	return api.Change{
		Node: node, View: 3, Low: 4,
		Marks: []api.Mark{{Seq: 4, Digest: dig(1)}, {Seq: 8, Digest: dig(2)}},
		P:     []api.Stand{{Seq: 5, Digest: dig(3), View: 1}, {Seq: 12, Digest: dig(4), View: 2}},
		Q:     []api.Stand{{Seq: 5, Digest: dig(3), View: 1}, {Seq: 5, Digest: dig(5), View: 2}, {Seq: 6, Digest: dig(3)}, {Seq: 12, Digest: dig(4), View: 2}},
	}
}

// leastChange is one that has no more than it must.
func leastChange(node int) api.Change {
	return api.Change{Node: node, View: 1, Marks: []api.Mark{{}}}
}

// fullChange is one that has all that it may have, of the greatest numbers.
func fullChange(node int) api.Change {
	low := api.MaxNumber - 8
	c := api.Change{Node: node, View: 1 << 20, Low: low}
	for i := range 5 {
		c.Marks = append(c.Marks, api.Mark{Seq: low + 2*i, Digest: dig(i)})
	}
	for i := range 8 {
		c.P = append(c.P, api.Stand{Seq: low + 1 + i, Digest: dig(i), View: 1<<20 - 1})
		for j := range 4 {
			c.Q = append(c.Q, api.Stand{Seq: low + 1 + i, Digest: dig(99 + j), View: 1<<20 - 1})
		}
	}
	return c
}

// fullNew is a new view that has all that it may have.
func fullNew() api.Note {
	n := api.Note{Kind: 9, From: 28, Group: 2, Epoch: 1 << 20, View: 1 << 20}
	for i := range 7 {
		n.Changes = append(n.Changes, fullChange(22+i))
	}
	w := api.Wish{Kind: 2, Client: 34, Stamp: api.MaxNumber, Group: 2, Epoch: 1 << 20, Block: 7, Data: data(16)}
	for i := range 8 {
		n.Picks = append(n.Picks, api.Pick{Seq: api.MaxNumber - 7 + i, Digest: dig(i), Batch: []api.Wish{w, w, w, w}})
	}
	return n
}

// basics are some notes of each kind.
func basics() []api.Note {
	both := []api.Wish{aWrite(), aSeal()}
	return []api.Note{
		{Kind: 1, From: 33, Group: 1, Epoch: 2, Batch: []api.Wish{aWrite()}},
		{Kind: 1, From: 34, Batch: []api.Wish{{Kind: 4, Client: 34, Stamp: 8, Block: 2, Old: 3, New: 12}}},
		{Kind: 2, From: 3, Group: 1, Epoch: 2, Node: 31, Stamp: 5, Answer: api.Answer{Err: 171, Data: data(16), Epoch: 3, Nodes: []int{5, 3, 3}}},
		{Kind: 3, From: 3, Group: 1, Epoch: 2, View: 4, Seq: 7, Batch: both},
		{Kind: 3, From: 1, Epoch: 1, View: 1, Seq: 300},
		{Kind: 4, From: 3, Group: 1, Epoch: 2, View: 4, Seq: 7, Digest: dig(1)},
		{Kind: 5, From: 3, Group: 1, Epoch: 2, View: 4, Seq: 7, Digest: dig(1)},
		{Kind: 6, From: 3, Group: 1, Epoch: 2, Seq: 8, Digest: dig(1)},
		{Kind: 7, From: 3, Group: 1, Epoch: 2, Change: aChange(3)},
		{Kind: 8, From: 3, Group: 1, Epoch: 2, View: 4, Node: 5, Digest: dig(1)},
		{Kind: 9, From: 3, Group: 1, Epoch: 2, View: 3, Changes: []api.Change{aChange(2), aChange(3), aChange(9)}, Picks: []api.Pick{{Seq: 5, Digest: dig(1), Batch: both}, {Seq: 6}, {Seq: 7, Digest: dig(2)}}},
		{Kind: 10, From: 3, Group: 1, Epoch: 2, Seq: 8, Digest: dig(1), Level: 1, Place: 2},
		{Kind: 11, From: 3, Group: 1, Epoch: 2, Seq: 8, Digest: dig(1), Level: 1, Place: 2, Digests: []api.Digest{dig(3), dig(3), dig(4)}, Data: data(20)},
		{Kind: 12, From: 2, Group: 1, Epoch: 5, Nodes: []int{5, 6, 7, 9}},
		{Kind: 13, From: 3, Group: 1, Epoch: 2, Seq: 8, Digest: dig(1)},
		{Kind: 14, From: 31, Group: 1, Epoch: 2, Batch: []api.Wish{aRead()}},
		{Kind: 15, From: 3, Group: 1, Epoch: 2, Seq: 7, Batch: both},
		{Kind: 16, From: 3, Group: 1, Epoch: 2, Batch: both},
	}
}

// leasts are notes that have no more than they must, of the least numbers.
func leasts() []api.Note {
	return []api.Note{
		{Kind: 1, From: 31, Batch: []api.Wish{{Kind: 3, Client: 31, Stamp: 1, Block: 1}}},
		{Kind: 2, From: 1, Node: 31},
		{Kind: 3, From: 1, Seq: 1},
		{Kind: 4, From: 1, Seq: 1},
		{Kind: 5, From: 1, Seq: 1},
		{Kind: 6, From: 1, Seq: 1},
		{Kind: 7, From: 1, Change: leastChange(1)},
		{Kind: 8, From: 1, View: 1, Node: 2},
		{Kind: 9, From: 1, View: 1, Changes: []api.Change{leastChange(1)}},
		{Kind: 9, From: 1, View: 1, Changes: []api.Change{leastChange(28)}, Picks: []api.Pick{{Seq: 1}}},
		{Kind: 10, From: 1, Seq: 1},
		{Kind: 11, From: 1, Seq: 1},
		{Kind: 12, From: 1, Nodes: []int{1}},
		{Kind: 13, From: 1, Seq: 1},
		{Kind: 14, From: 31, Group: 1, Batch: []api.Wish{{Kind: 1, Client: 31, Stamp: 1, Group: 1}}},
		{Kind: 15, From: 1, Seq: 1},
		{Kind: 16, From: 1},
	}
}

// fulls are notes that have all that they may have, of the greatest numbers.
func fulls() []api.Note {
	w := api.Wish{Kind: 2, Client: 34, Stamp: api.MaxNumber, Group: 2, Epoch: 1 << 20, Block: 7, Data: data(16)}
	s := api.Wish{Kind: 5, Group: 2, Epoch: 1 << 20, Next: []int{22, 23, 24, 25, 26, 27, 28}}
	r := api.Wish{Kind: 1, Client: 34, Stamp: api.MaxNumber, Group: 2, Epoch: 1 << 20, Block: 7}
	all := api.Digest(bytes.Repeat([]byte{255}, 32))
	head := api.Note{From: 28, Group: 2, Epoch: 1 << 20}
	of := func(kind int, f func(n *api.Note)) api.Note {
		n := head
		n.Kind = kind
		f(&n)
		return n
	}
	marked := func(n *api.Note) { n.Seq, n.Digest = api.MaxNumber, all }
	viewed := func(n *api.Note) { marked(n); n.View = 1 << 20 }
	placed := func(n *api.Note) { marked(n); n.Level, n.Place = 9, 999 }
	return []api.Note{
		of(1, func(n *api.Note) { n.From, n.Batch = 34, []api.Wish{w} }),
		of(2, func(n *api.Note) {
			n.Node, n.Stamp = 34, api.MaxNumber
			n.Answer = api.Answer{Err: 999, Data: data(16), Epoch: 1 << 20, Nodes: []int{28, 28, 28, 28, 28, 28, 28}}
		}),
		of(3, func(n *api.Note) { n.View, n.Seq, n.Batch = 1<<20, api.MaxNumber, []api.Wish{w, w, w, w} }),
		of(4, viewed),
		of(5, viewed),
		of(6, marked),
		of(7, func(n *api.Note) { n.Change = fullChange(28) }),
		of(8, func(n *api.Note) { n.View, n.Node, n.Digest = 1<<20, 27, all }),
		fullNew(),
		of(10, placed),
		of(11, func(n *api.Note) { placed(n); n.Digests, n.Data = slices.Repeat([]api.Digest{all}, 8), data(1024) }),
		of(12, func(n *api.Note) { n.Nodes = []int{22, 23, 24, 25, 26, 27, 28} }),
		of(13, marked),
		of(14, func(n *api.Note) { n.From, n.Batch = 34, []api.Wish{r} }),
		of(15, func(n *api.Note) { n.Seq, n.Batch = api.MaxNumber, []api.Wish{s, s, s, s} }),
		of(16, func(n *api.Note) { n.Batch = []api.Wish{w, s, w, s} }),
	}
}

func goods() []api.Note {
	return slices.Concat(basics(), leasts(), fulls())
}

// odd are numbers to put into fields: those at the edges of all that is named, and some of which the low bits are within.
func odd() []int {
	return []int{math.MinInt, -1 << 32, -1, 0, 1, 2, 3, 4, 5, 7, 8, 9, 10, 12, 13, 16, 17, 27, 28, 29, 30, 31, 33, 34, 35, 255, 256, 257, 999, 1000, 1<<20 - 1, 1 << 20, 1<<20 + 1, 1<<32 + 1, 1<<32 + 31, api.MaxNumber - 8, api.MaxNumber - 7, api.MaxNumber, api.MaxNumber + 1, math.MaxInt}
}

// fields are all numbers of a note but those in lists; some may not be there.
func fields() []func(n *api.Note) *int {
	return []func(n *api.Note) *int{
		func(n *api.Note) *int { return &n.Kind }, func(n *api.Note) *int { return &n.From }, func(n *api.Note) *int { return &n.Group },
		func(n *api.Note) *int { return &n.Epoch }, func(n *api.Note) *int { return &n.View }, func(n *api.Note) *int { return &n.Seq },
		func(n *api.Note) *int { return &n.Stamp }, func(n *api.Note) *int { return &n.Node }, func(n *api.Note) *int { return &n.Level },
		func(n *api.Note) *int { return &n.Place }, func(n *api.Note) *int { return (*int)(&n.Answer.Err) }, func(n *api.Note) *int { return &n.Answer.Epoch },
		func(n *api.Note) *int { return &n.Change.Node }, func(n *api.Note) *int { return &n.Change.View }, func(n *api.Note) *int { return &n.Change.Low },
	}
}

// lists put lists into a note: of all kinds and lengths, most of which may not be.
func lists() []func(n *api.Note) {
	var out []func(n *api.Note)
	add := func(f func(n *api.Note)) { out = append(out, f) }
	for _, l := range [][]int{nil, {}, {1}, {28}, {0}, {29}, {-1}, {1<<32 + 1}, {1, 2}, {1, 1}, {2, 1}, {1, 28}, {1, 2, 3, 4}, {1, 2, 4, 3}, {2, 1, 3, 4}, {1, 2, 3, 3}, {0, 1, 2, 3}, {26, 27, 28, 29}, {1, 2, 3, 4, 5, 6, 7}, {1, 2, 3, 4, 5, 6, 7, 8}, {1, 1, 1, 1, 1, 1, 1, 1}} {
		add(func(n *api.Note) { n.Nodes = l })
		add(func(n *api.Note) { n.Answer.Nodes = l })
	}
	for _, m := range []int{0, 1, 15, 16, 17, 255, 256, 1023, 1024, 1025, 65536, 65537} {
		add(func(n *api.Note) { n.Data = data(m) })
		add(func(n *api.Note) { n.Answer.Data = data(m) })
	}
	for m := range 10 {
		add(func(n *api.Note) { n.Digests = slices.Repeat([]api.Digest{dig(7)}, m) })
		add(func(n *api.Note) { n.Digests = make([]api.Digest, m) })
	}
	none, strange, chunk2, later, query := api.Wish{}, aWrite(), aRead(), aSeal(), api.Wish{Kind: 3, Client: 34, Stamp: 7, Block: 1}
	strange.Old, chunk2.Group, later.Epoch = 1, 2, 3
	for _, w := range []api.Wish{none, strange, chunk2, later, query, aRead(), aWrite(), aSeal()} {
		for m := range 6 {
			add(func(n *api.Note) { n.Batch = slices.Repeat([]api.Wish{w}, m) })
			add(func(n *api.Note) { n.Batch = append(slices.Repeat([]api.Wish{aWrite()}, m), w) })
			add(func(n *api.Note) {
				n.Picks = []api.Pick{{Seq: 5, Digest: dig(1), Batch: slices.Repeat([]api.Wish{w}, m)}}
			})
			add(func(n *api.Note) { n.Picks = []api.Pick{{Seq: 5, Batch: slices.Repeat([]api.Wish{w}, m)}} })
		}
	}
	for m := range 11 {
		picks := make([]api.Pick, m)
		changes := make([]api.Change, m)
		for i := range m {
			picks[i] = api.Pick{Seq: 5 + i, Digest: dig(i)}
			changes[i] = aChange(1 + i)
		}
		add(func(n *api.Note) { n.Picks = picks })
		add(func(n *api.Note) { n.Changes = changes })
	}
	return out
}

// edits make a part of such a change as aChange is another: one at the edge of what it may be, or over it. The lists stay as long as they are.
func edits() []func(c *api.Change) {
	var out []func(c *api.Change)
	add := func(f func(c *api.Change)) { out = append(out, f) }
	for _, m := range odd() {
		add(func(c *api.Change) { c.Node = m })
		add(func(c *api.Change) { c.View = m })
		add(func(c *api.Change) { c.Low = m })
		for i := range 2 {
			add(func(c *api.Change) { c.Marks[i].Seq = m })
			add(func(c *api.Change) { c.P[i].Seq = m })
			add(func(c *api.Change) { c.P[i].View = m })
		}
		for i := range 4 {
			add(func(c *api.Change) { c.Q[i].Seq = m })
			add(func(c *api.Change) { c.Q[i].View = m })
		}
	}
	for i := range 4 {
		for m := range 7 {
			add(func(c *api.Change) { c.Q[i].Digest = dig(m) })
		}
		add(func(c *api.Change) { c.Q[i].Digest = api.Digest{} })
		add(func(c *api.Change) { c.Q[i] = c.Q[(i+1)%4] })
		add(func(c *api.Change) { c.Q[i], c.Q[(i+1)%4] = c.Q[(i+1)%4], c.Q[i] })
	}
	add(func(c *api.Change) { c.P[0], c.P[1] = c.P[1], c.P[0] })
	add(func(c *api.Change) { c.P[1] = c.P[0] })
	add(func(c *api.Change) { c.Marks[0], c.Marks[1] = c.Marks[1], c.Marks[0] })
	add(func(c *api.Change) { c.Marks[1] = c.Marks[0] })
	return out
}

// relists give a change other lists.
func relists() []func(c *api.Change) {
	var out []func(c *api.Change)
	add := func(f func(c *api.Change)) { out = append(out, f) }
	for _, m := range odd() {
		add(func(c *api.Change) { c.Low, c.Marks, c.P, c.Q = m, []api.Mark{{Seq: m}}, nil, nil })
	}
	for m := range 11 {
		marks, stands := make([]api.Mark, m), make([]api.Stand, m)
		onward, upward := make([]api.Stand, m), make([]api.Stand, m)
		for i := range m {
			marks[i].Seq = 4 + i
			stands[i].Seq = 5 + i
			onward[i] = api.Stand{Seq: 7, Digest: dig(9 - i), View: min(i, 2)}
			upward[i] = api.Stand{Seq: 7, Digest: dig(i), View: 1}
		}
		add(func(c *api.Change) { c.Marks = marks })
		add(func(c *api.Change) { c.P = stands })
		add(func(c *api.Change) { c.Q = stands })
		add(func(c *api.Change) { c.Q = slices.Repeat(stands, 2) })
		add(func(c *api.Change) { c.Q = onward })
		add(func(c *api.Change) { c.P = upward })
		add(func(c *api.Change) { c.Q = upward })
		add(func(c *api.Change) { c.Q = append(slices.Clone(upward), onward...) })
	}
	for _, low := range []int{0, 4} {
		for m := range 5 {
			full := fullChange(3)
			shift := full.Low - low
			for i := range full.Q {
				full.Q[i].Seq -= shift
			}
			q := slices.Insert(full.Q, 4*m, api.Stand{Seq: low + 1 + m, Digest: dig(98), View: 0}) // one more of a number
			add(func(c *api.Change) { c.View, c.Q = 1<<20, q })
			add(func(c *api.Change) { c.View, c.Q = 1<<20, slices.Delete(slices.Clone(q), 4*m+1, 4*m+2) })
		}
	}
	add(func(c *api.Change) { c.Q = append(c.Q[:2:2], api.Stand{Seq: 5, Digest: dig(6), View: 2}) })
	add(func(c *api.Change) { c.Q = append(c.Q[:1:1], api.Stand{Seq: 5, Digest: dig(3), View: 2}) }) // a digest in two views
	return out
}

// varied are the basics with one field, or two, made another, and with other lists.
func varied() []api.Note {
	var out []api.Note
	few := []int{0, 1, 3, 31}
	for _, n := range slices.Concat(basics(), leasts()) {
		for i, f := range fields() {
			for _, m := range odd() {
				v := n
				*f(&v) = m
				out = append(out, v)
			}
			for _, g := range fields()[i+1:] {
				for k := range len(few) * len(few) {
					v := n
					*f(&v), *g(&v) = few[k/len(few)], few[k%len(few)]
					out = append(out, v)
				}
			}
		}
		for _, f := range lists() {
			v := n
			f(&v)
			out = append(out, v)
		}
		n.Digest[31] ^= 1
		out = append(out, n)
	}
	return append(out, variedChanges()...)
}

// variedChanges are notes with changes of which a part, or two, was made another.
func variedChanges() []api.Note {
	var out []api.Note
	change := func(l ...func(c *api.Change)) {
		c := aChange(3)
		n := basics()[10]
		for _, f := range l {
			f(&c)
			f(&n.Changes[1])
		}
		out = append(out, api.Note{Kind: 7, From: 3, Group: 1, Epoch: 2, Change: c}, n)
	}
	r := rand.New(rand.NewSource(7))
	for i, f := range edits() {
		change(f)
		for range 8 {
			change(f, edits()[r.Intn(i+1)])
		}
	}
	for _, f := range relists() {
		change(f)
	}
	return out
}

// spoiled is bytes in which a little is made another: a bit, a byte, some taken out, put in, or doubled.
func spoiled(r *rand.Rand, b []byte) []byte {
	out := bytes.Clone(b)
	for range 1 + r.Intn(2) {
		if len(out) == 0 {
			return []byte{byte(r.Intn(9))}
		}
		i := r.Intn(len(out))
		switch r.Intn(6) {
		case 0:
			out[i] ^= 1 << r.Intn(8)
		case 1:
			out[i] = byte(r.Intn(36))
		case 2:
			out = append(out[:i], out[i+1:]...)
		case 3:
			out = slices.Insert(out, i, byte(r.Intn(9)))
		case 4:
			out = out[:i]
		case 5:
			out = append(out, out[i:]...)
		}
	}
	return out
}

// turn turns bytes over, and their spare room.
func turn(b []byte) {
	b = b[:cap(b)]
	for i := range b {
		b[i] ^= 255
	}
}

func turnInts(l []int) {
	l = l[:cap(l)]
	for i := range l {
		l[i] = ^l[i]
	}
}

// spoil turns over all that a note's lists have, and their spare room: what two lists share is turned over twice, and so is as it was.
func spoil(n *api.Note) {
	spoilBatch(n.Batch)
	turn(n.Answer.Data)
	turnInts(n.Answer.Nodes)
	spoilChange(&n.Change)
	for i := range n.Changes {
		n.Changes[i].Low ^= -1
		spoilChange(&n.Changes[i])
	}
	for i := range n.Picks {
		n.Picks[i].Seq ^= -1
		turn(n.Picks[i].Digest[:])
		spoilBatch(n.Picks[i].Batch)
	}
	digests := n.Digests[:cap(n.Digests)]
	for i := range digests {
		turn(digests[i][:])
	}
	turn(n.Data)
	turnInts(n.Nodes)
}

func spoilBatch(l []api.Wish) {
	for i := range l {
		l[i].Stamp ^= -1
		turn(l[i].Data)
		turnInts(l[i].Next)
	}
}

func spoilChange(c *api.Change) {
	marks := c.Marks[:cap(c.Marks)]
	for i := range marks {
		marks[i].Seq ^= -1
		turn(marks[i].Digest[:])
	}
	spoilStands(c.P)
	spoilStands(c.Q)
}

func spoilStands(l []api.Stand) {
	l = l[:cap(l)]
	for i := range l {
		l[i].Seq ^= -1
		turn(l[i].Digest[:])
	}
}
