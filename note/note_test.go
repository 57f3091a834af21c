package note

import (
	"bytes"
	"encoding/hex"
	"math/rand"
	"reflect"
	"slices"
	"strings"
	"sync"
	"testing"

	"bastide/api"
)

// unpacks holds Unpack against the chapter's words.
func unpacks(t *testing.T, b []byte) bool {
	t.Helper()
	n, e := Unpack(b)
	m, ok := heard(b)
	want := api.OK
	if !ok {
		want = api.ErrSyntax
	}
	if e != want || !alike(n, m) {
		t.Errorf("%x: %+v, %d; want %+v, %d", b, n, e, m, want)
	}
	return ok
}

// P12.1

func TestCheck(t *testing.T) {
	for _, n := range goods() {
		if e := Check(n); e != api.OK || !mayNote(n) {
			t.Errorf("%+v: %d", n, e)
		}
	}
	may, mayNot := map[int]int{}, map[int]int{}
	for _, n := range varied() {
		want := api.OK
		if mayNote(n) {
			may[n.Kind]++
		} else {
			mayNot[n.Kind]++
			want = api.ErrArg
		}
		if e := Check(n); e != want {
			t.Errorf("%+v: %d, want %d", n, e, want)
		}
	}
	for kind := 1; kind <= 16; kind++ {
		if may[kind] < 20 || mayNot[kind] < 100 {
			t.Errorf("kind %d: of the varied %d may be, %d may not", kind, may[kind], mayNot[kind])
		}
	}
}

func TestPack(t *testing.T) {
	for _, n := range append(goods(), varied()...) {
		b, e := Pack(n)
		switch {
		case !mayNote(n):
			if e != api.ErrArg || b != nil {
				t.Errorf("%+v: %x, %d", n, b, e)
			}
		case e != api.OK || !bytes.Equal(b, say(n)):
			t.Errorf("%+v: %x, %d; want %x", n, b, e, say(n))
		}
	}
}

func TestChange(t *testing.T) {
	may, mayNot := 0, 0
	for _, n := range append(goods(), variedChanges()...) {
		for _, c := range append(n.Changes, n.Change) {
			b, e := Change(c)
			if mayChange(c) {
				may++
				if e != api.OK || !bytes.Equal(b, sayChange(c)) {
					t.Errorf("%+v: %x, %d; want %x", c, b, e, sayChange(c))
				}
				continue
			}
			mayNot++
			if e != api.ErrArg || b != nil {
				t.Errorf("%+v: %x, %d", c, b, e)
			}
		}
	}
	if may < 1000 || mayNot < 1000 {
		t.Errorf("%d may be, %d may not", may, mayNot)
	}
	if b, e := Change(api.Change{}); e != api.ErrArg || b != nil {
		t.Errorf("the zero change: %x, %d", b, e)
	}
}

// with is a note, or a change, of which something was made another.
func with[T any](x T, f func(x *T)) T {
	f(&x)
	return x
}

// What the chapter names, edge by edge: the last that may be, and the first that may not.
func TestEdgesOfChanges(t *testing.T) {
	type change = api.Change
	least, most := leastChange(1), fullChange(28)
	stands := func(n int) []api.Stand {
		var l []api.Stand
		for i := range n {
			l = append(l, api.Stand{Seq: 1 + i})
		}
		return l
	}
	for i, c := range []change{
		least, most,
		with(least, func(c *change) { c.Node = 28 }),
		with(least, func(c *change) { c.View = 1 << 20 }),
		with(least, func(c *change) {
			c.Low, c.Marks = api.MaxNumber-8, []api.Mark{{Seq: api.MaxNumber - 8}, {Seq: api.MaxNumber}}
		}),
		with(least, func(c *change) { c.Marks = []api.Mark{{}, {Seq: 1}, {Seq: 2}, {Seq: 99}, {Seq: api.MaxNumber}} }),
		with(least, func(c *change) { c.P = stands(8) }),
		with(least, func(c *change) { c.P = []api.Stand{{Seq: 8}} }),
		with(least, func(c *change) { c.Q = []api.Stand{{Seq: 1}, {Seq: 8}} }),
		with(least, func(c *change) { c.View, c.P = 2, []api.Stand{{Seq: 1, View: 1}} }),
		with(least, func(c *change) {
			c.Q = []api.Stand{{Seq: 1}, {Seq: 1, Digest: dig(1)}, {Seq: 1, Digest: dig(2)}, {Seq: 1, Digest: dig(3)}}
		}),
		with(least, func(c *change) {
			c.View, c.Q = 2, []api.Stand{{Seq: 1, Digest: dig(2)}, {Seq: 1, Digest: dig(1), View: 1}, {Seq: 2}}
		}),
		with(least, func(c *change) { c.Q = []api.Stand{{Seq: 1, Digest: dig(1)}, {Seq: 2, Digest: dig(1)}} }),
	} {
		if _, e := Change(c); e != api.OK || !mayChange(c) {
			t.Errorf("%d: %+v: %d", i, c, e)
		}
	}
	for i, c := range []change{
		with(least, func(c *change) { c.Node = 0 }), with(least, func(c *change) { c.Node = 29 }),
		with(least, func(c *change) { c.View = 0 }), with(least, func(c *change) { c.View = 1<<20 + 1 }),
		with(least, func(c *change) { c.Low, c.Marks = -1, []api.Mark{{Seq: -1}} }),
		with(least, func(c *change) { c.Low, c.Marks = api.MaxNumber-7, []api.Mark{{Seq: api.MaxNumber - 7}} }),
		with(least, func(c *change) { c.Low = 1 }), with(least, func(c *change) { c.Marks = []api.Mark{{Seq: 1}} }),
		with(least, func(c *change) { c.Marks = nil }),
		with(least, func(c *change) { c.Marks = []api.Mark{{}, {Seq: 1}, {Seq: 2}, {Seq: 3}, {Seq: 4}, {Seq: 5}} }),
		with(least, func(c *change) { c.Marks = []api.Mark{{}, {}} }),
		with(least, func(c *change) { c.Marks = []api.Mark{{}, {Seq: 2}, {Seq: 2}} }),
		with(least, func(c *change) { c.Marks = []api.Mark{{}, {Seq: 2}, {Seq: 1}} }),
		with(least, func(c *change) { c.Marks = []api.Mark{{}, {Seq: api.MaxNumber + 1}} }),
		with(least, func(c *change) { c.P = []api.Stand{{Seq: 0}} }), with(least, func(c *change) { c.P = []api.Stand{{Seq: 9}} }),
		with(least, func(c *change) { c.P = stands(9) }),
		with(least, func(c *change) { c.P = []api.Stand{{Seq: 1, View: 1}} }), with(least, func(c *change) { c.P = []api.Stand{{Seq: 1, View: -1}} }),
		with(least, func(c *change) { c.P = []api.Stand{{Seq: 1}, {Seq: 1, Digest: dig(1)}} }),
		with(least, func(c *change) { c.P = []api.Stand{{Seq: 2}, {Seq: 1}} }),
		with(least, func(c *change) { c.Q = []api.Stand{{Seq: 0}} }), with(least, func(c *change) { c.Q = []api.Stand{{Seq: 9}} }),
		with(least, func(c *change) { c.Q = []api.Stand{{Seq: 1, View: 1}} }), with(least, func(c *change) { c.Q = []api.Stand{{Seq: 1, View: -1}} }),
		with(least, func(c *change) { c.Q = []api.Stand{{Seq: 2}, {Seq: 1}} }),
		with(least, func(c *change) { c.Q = []api.Stand{{Seq: 1}, {Seq: 1}} }),
		with(least, func(c *change) {
			c.View, c.Q = 2, []api.Stand{{Seq: 1, Digest: dig(1), View: 1}, {Seq: 1, Digest: dig(2)}}
		}),
		with(least, func(c *change) { c.View, c.Q = 2, []api.Stand{{Seq: 1}, {Seq: 1, View: 1}} }),
		with(least, func(c *change) {
			c.View, c.Q = 3, []api.Stand{{Seq: 1}, {Seq: 1, Digest: dig(2), View: 1}, {Seq: 1, View: 2}}
		}),
		with(least, func(c *change) { c.Q = []api.Stand{{Seq: 1, Digest: dig(2)}, {Seq: 1, Digest: dig(1)}} }),
		with(least, func(c *change) {
			c.Q = []api.Stand{{Seq: 1, Digest: api.Digest{31: 2}}, {Seq: 1, Digest: api.Digest{31: 1}}}
		}),
		with(least, func(c *change) {
			c.Q = []api.Stand{{Seq: 1}, {Seq: 1, Digest: dig(1)}, {Seq: 1, Digest: dig(2)}, {Seq: 1, Digest: dig(3)}, {Seq: 1, Digest: dig(4)}}
		}),
		with(most, func(c *change) {
			c.Q = append(slices.Clone(c.Q), api.Stand{Seq: api.MaxNumber, Digest: dig(200), View: 1<<20 - 1})
		}),
	} {
		if _, e := Change(c); e != api.ErrArg || mayChange(c) {
			t.Errorf("%d: %+v: %d", i, c, e)
		}
		n := api.Note{Kind: api.NoteChange, From: c.Node, Change: c}
		if e := Check(n); e != api.ErrArg {
			t.Errorf("%d: as a note's: %d", i, e)
		}
		n = api.Note{Kind: api.NoteNew, From: 1, View: c.View, Changes: []change{c}}
		if e := Check(n); e != api.ErrArg {
			t.Errorf("%d: as a new view's: %d", i, e)
		}
	}
}

func TestEdgesOfNotes(t *testing.T) {
	type note = api.Note
	b := basics()
	wish, replace, reply, propose, prepare, mark, change, ack, newView, fetch, piece, order, look, ran, batch := b[0], b[1], b[2], b[3], b[5], b[7], b[8], b[9], b[10], b[11], b[12], b[13], b[15], b[16], b[17]
	seal := []api.Wish{aSeal()}
	long := func(n int) []api.Pick {
		var l []api.Pick
		for i := range n {
			l = append(l, api.Pick{Seq: 1 + i})
		}
		return l
	}
	many := func(n int) []api.Change {
		var l []api.Change
		for i := range n {
			l = append(l, aChange(1+i))
		}
		return l
	}
	for i, n := range []note{
		with(wish, func(n *note) { n.Batch = []api.Wish{aRead()}; n.From = 31 }),
		with(reply, func(n *note) { n.Stamp = 0; n.Answer = api.Answer{} }), with(reply, func(n *note) { n.Answer.Err = 999 }),
		with(reply, func(n *note) { n.Node = 34 }), with(reply, func(n *note) { n.Answer.Nodes = []int{28, 1, 28, 1, 28, 1, 28} }),
		with(reply, func(n *note) { n.Answer.Data = data(15) }),
		with(propose, func(n *note) { n.Batch = slices.Repeat(seal, 4) }), with(propose, func(n *note) { n.Batch = nil; n.View = 0 }),
		with(prepare, func(n *note) { n.Digest = api.Digest{} }), with(mark, func(n *note) { n.Digest = api.Digest{} }),
		with(ack, func(n *note) { n.View, n.Node = 1, 28 }), with(ack, func(n *note) { n.Node = 2 }),
		with(newView, func(n *note) { n.Changes = many(1) }), with(newView, func(n *note) { n.Changes = many(7) }),
		with(newView, func(n *note) { n.Picks = nil }), with(newView, func(n *note) { n.Picks = long(8) }),
		with(newView, func(n *note) { n.Picks = []api.Pick{{Seq: 1, Digest: dig(1), Batch: slices.Repeat(seal, 4)}} }),
		with(newView, func(n *note) { n.Picks = []api.Pick{{Seq: api.MaxNumber - 1}, {Seq: api.MaxNumber}} }),
		with(fetch, func(n *note) { n.Level, n.Place = 0, 0 }), with(fetch, func(n *note) { n.Level, n.Place = 9, 999 }),
		with(piece, func(n *note) { n.Digests, n.Data = nil, nil }), with(piece, func(n *note) { n.Digests, n.Data = make([]api.Digest, 8), data(1024) }),
		with(order, func(n *note) { n.Nodes = []int{28} }), with(order, func(n *note) { n.Nodes = []int{1, 2} }), with(order, func(n *note) { n.Nodes = []int{1, 2, 3, 4, 5, 6, 7} }),
		with(batch, func(n *note) { n.Batch = nil }), with(ran, func(n *note) { n.Batch = slices.Repeat(seal, 4) }),
	} {
		if e := Check(n); e != api.OK || !mayNote(n) {
			t.Errorf("%d: %+v: %d", i, n, e)
		}
	}
	for i, n := range []note{
		{}, {Kind: 17, From: 1}, {Kind: 17, From: 31}, {Kind: 0, From: 1}, {Kind: -1, From: 1}, {Kind: 3 + 1<<32, From: 1, Seq: 1},
		with(wish, func(n *note) { n.From = 32 }), with(wish, func(n *note) { n.From = 30 }), with(wish, func(n *note) { n.From = 1 }), with(wish, func(n *note) { n.Group = 2 }),
		with(wish, func(n *note) { n.Epoch = 3 }), with(wish, func(n *note) { n.Batch = nil }), with(wish, func(n *note) { n.Batch = append(n.Batch, n.Batch...) }),
		with(wish, func(n *note) { n.Batch = seal }), with(wish, func(n *note) { n.Batch = seal; n.From = 0 }), with(wish, func(n *note) { n.Batch = []api.Wish{{}} }),
		with(replace, func(n *note) { n.Epoch = 1 }), with(replace, func(n *note) { n.Group = 1 }), with(replace, func(n *note) { n.Kind = api.NoteLook }),
		with(reply, func(n *note) { n.From = 31 }), with(reply, func(n *note) { n.Node = 30 }), with(reply, func(n *note) { n.Node = 35 }), with(reply, func(n *note) { n.Node = 5 }),
		with(reply, func(n *note) { n.Stamp = -1 }), with(reply, func(n *note) { n.Stamp = 1 << 53 }), with(reply, func(n *note) { n.Answer.Err = 1000 }), with(reply, func(n *note) { n.Answer.Err = -1 }),
		with(reply, func(n *note) { n.Answer.Data = data(17) }), with(reply, func(n *note) { n.Answer.Epoch = -1 }), with(reply, func(n *note) { n.Answer.Epoch = 1<<20 + 1 }),
		with(reply, func(n *note) { n.Answer.Nodes = []int{1, 2, 3, 4, 5, 6, 7, 8} }), with(reply, func(n *note) { n.Answer.Nodes = []int{1, 0} }), with(reply, func(n *note) { n.Answer.Nodes = []int{29, 1} }),
		with(propose, func(n *note) { n.View = -1 }), with(propose, func(n *note) { n.View = 1<<20 + 1 }), with(propose, func(n *note) { n.Seq = 0 }), with(propose, func(n *note) { n.Seq = 1 << 53 }),
		with(propose, func(n *note) { n.Batch = slices.Repeat(seal, 5) }), with(propose, func(n *note) { n.Batch = []api.Wish{aSeal(), {}} }), with(propose, func(n *note) { n.Group = 2 }),
		with(propose, func(n *note) { n.Epoch = 1 }), with(propose, func(n *note) { n.From = 29 }), with(propose, func(n *note) { n.From = 0 }), with(propose, func(n *note) { n.From = 31 }),
		with(propose, func(n *note) { n.Digest = dig(1) }), with(prepare, func(n *note) { n.Batch = seal }), with(mark, func(n *note) { n.View = 1 }),
		with(mark, func(n *note) { n.Seq = 0 }), with(mark, func(n *note) { n.Seq = 1 << 53 }), with(mark, func(n *note) { n.Node = 1 }),
		with(change, func(n *note) { n.From = 4 }), with(change, func(n *note) { n.View = 3 }), with(change, func(n *note) { n.Change = api.Change{} }), with(change, func(n *note) { n.Changes = many(1) }),
		with(ack, func(n *note) { n.View = 0 }), with(ack, func(n *note) { n.Node = 3 }), with(ack, func(n *note) { n.Node = 0 }), with(ack, func(n *note) { n.Node = 29 }), with(ack, func(n *note) { n.Seq = 1 }),
		with(newView, func(n *note) { n.View = 4 }), with(newView, func(n *note) { n.View = 0 }), with(newView, func(n *note) { n.Changes = nil }), with(newView, func(n *note) { n.Changes = many(8) }),
		with(newView, func(n *note) { n.Changes = []api.Change{aChange(2), aChange(2)} }), with(newView, func(n *note) { n.Changes = []api.Change{aChange(2), aChange(1)} }),
		with(newView, func(n *note) { n.Changes = []api.Change{aChange(1), leastChange(2)} }), with(newView, func(n *note) { n.Changes = []api.Change{aChange(1), {}} }),
		with(newView, func(n *note) { n.Picks = long(9) }), with(newView, func(n *note) { n.Picks = []api.Pick{{Seq: 0}} }), with(newView, func(n *note) { n.Picks = []api.Pick{{Seq: 0}, {Seq: 1}} }),
		with(newView, func(n *note) { n.Picks = []api.Pick{{Seq: 1}, {Seq: 3}} }), with(newView, func(n *note) { n.Picks = []api.Pick{{Seq: 1}, {Seq: 1}} }), with(newView, func(n *note) { n.Picks = []api.Pick{{Seq: 2}, {Seq: 1}} }),
		with(newView, func(n *note) { n.Picks = []api.Pick{{Seq: api.MaxNumber}, {Seq: 1 << 53}} }), with(newView, func(n *note) { n.Picks = []api.Pick{{Seq: 1, Batch: seal}} }),
		with(newView, func(n *note) { n.Picks = []api.Pick{{Seq: 1, Digest: dig(1), Batch: slices.Repeat(seal, 5)}} }), with(newView, func(n *note) { n.Picks = []api.Pick{{Seq: 1, Digest: dig(1), Batch: []api.Wish{{}}}} }),
		with(newView, func(n *note) { n.Epoch = 3 }), with(newView, func(n *note) { n.Digest = dig(1) }), with(newView, func(n *note) { n.Change = aChange(3) }),
		with(fetch, func(n *note) { n.Level = 10 }), with(fetch, func(n *note) { n.Level = -1 }), with(fetch, func(n *note) { n.Place = 1000 }), with(fetch, func(n *note) { n.Place = -1 }),
		with(fetch, func(n *note) { n.Seq = 0 }), with(fetch, func(n *note) { n.Data = data(1) }), with(fetch, func(n *note) { n.Digests = []api.Digest{{}} }), with(fetch, func(n *note) { n.From = 31 }),
		with(piece, func(n *note) { n.Level = 10 }), with(piece, func(n *note) { n.Place = 1000 }), with(piece, func(n *note) { n.Seq = 0 }), with(piece, func(n *note) { n.Digests = make([]api.Digest, 9) }),
		with(piece, func(n *note) { n.Data = data(1025) }), with(piece, func(n *note) { n.Nodes = []int{1} }),
		with(order, func(n *note) { n.Nodes = nil }), with(order, func(n *note) { n.Nodes = []int{0} }), with(order, func(n *note) { n.Nodes = []int{28, 29} }), with(order, func(n *note) { n.Nodes = []int{2, 1} }),
		with(order, func(n *note) { n.Nodes = []int{2, 2} }), with(order, func(n *note) { n.Nodes = []int{1, 2, 3, 4, 5, 6, 7, 8} }), with(order, func(n *note) { n.Answer.Nodes = []int{1} }),
		with(look, func(n *note) { n.Batch = []api.Wish{aWrite()}; n.From = 33 }), with(look, func(n *note) { n.From = 32 }), with(look, func(n *note) { n.Batch = nil }), with(look, func(n *note) { n.Epoch = 0 }),
		with(look, func(n *note) { n.Seq = 1 }), with(ran, func(n *note) { n.Seq = 0 }), with(ran, func(n *note) { n.View = 1 }), with(ran, func(n *note) { n.Batch = []api.Wish{{}} }),
		with(batch, func(n *note) { n.Seq = 1 }), with(batch, func(n *note) { n.Batch = slices.Repeat(seal, 5) }), with(batch, func(n *note) { n.Group = 0 }),
		with(batch, func(n *note) { n.Group = 3; n.Batch = nil }), with(batch, func(n *note) { n.Group = -1; n.Batch = nil }),
		with(batch, func(n *note) { n.Epoch = 1<<20 + 1; n.Batch = nil }), with(batch, func(n *note) { n.Epoch = -1; n.Batch = nil }),
	} {
		if e := Check(n); e != api.ErrArg || mayNote(n) {
			t.Errorf("%d: %+v: %d", i, n, e)
		}
		if out, e := Pack(n); e != api.ErrArg || out != nil {
			t.Errorf("%d: %+v: %x, %d", i, n, out, e)
		}
	}
}

// Each field that a kind has not keeps its notes from being, whatever else is in them.
func TestNothingElse(t *testing.T) {
	more := []func(n *api.Note){
		func(n *api.Note) { n.View = 1 }, func(n *api.Note) { n.Seq = 1 }, func(n *api.Note) { n.Digest = dig(1) }, func(n *api.Note) { n.Digest[31] = 1 },
		func(n *api.Note) { n.Batch = []api.Wish{aWrite()} }, func(n *api.Note) { n.Batch = []api.Wish{{}} },
		func(n *api.Note) { n.Answer.Err = 1 }, func(n *api.Note) { n.Answer.Data = []byte{0} }, func(n *api.Note) { n.Answer.Epoch = 1 }, func(n *api.Note) { n.Answer.Nodes = []int{1} },
		func(n *api.Note) { n.Stamp = 1 }, func(n *api.Note) { n.Node = 9 },
		func(n *api.Note) { n.Change.Node = 1 }, func(n *api.Note) { n.Change.View = 1 }, func(n *api.Note) { n.Change.Low = 1 },
		func(n *api.Note) { n.Change.Marks = []api.Mark{{}} }, func(n *api.Note) { n.Change.P = []api.Stand{{}} }, func(n *api.Note) { n.Change.Q = []api.Stand{{}} },
		func(n *api.Note) { n.Changes = []api.Change{{}} }, func(n *api.Note) { n.Picks = []api.Pick{{}} }, func(n *api.Note) { n.Picks = []api.Pick{{Seq: 5}} },
		func(n *api.Note) { n.Level = 1 }, func(n *api.Note) { n.Place = 1 },
		func(n *api.Note) { n.Digests = []api.Digest{{}} }, func(n *api.Note) { n.Data = []byte{0} }, func(n *api.Note) { n.Nodes = []int{1} },
	}
	for _, n := range goods() {
		for i, f := range more {
			v := n
			f(&v)
			want := api.OK
			if !mayNote(v) {
				want = api.ErrArg
			}
			if e := Check(v); e != want {
				t.Errorf("%d: %+v: %d", i, v, e)
			}
		}
		// lists without elements are none
		v := n
		for _, l := range []func(){
			func() { v.Batch = append([]api.Wish{}, v.Batch...) }, func() { v.Answer.Data = append([]byte{}, v.Answer.Data...) }, func() { v.Answer.Nodes = append([]int{}, v.Answer.Nodes...) },
			func() { v.Change.Marks = append([]api.Mark{}, v.Change.Marks...) }, func() { v.Change.P = append([]api.Stand{}, v.Change.P...) }, func() { v.Change.Q = append([]api.Stand{}, v.Change.Q...) },
			func() { v.Changes = append([]api.Change{}, v.Changes...) }, func() { v.Picks = append([]api.Pick{}, v.Picks...) }, func() { v.Digests = append([]api.Digest{}, v.Digests...) },
			func() { v.Data = append([]byte{}, v.Data...) }, func() { v.Nodes = append([]int{}, v.Nodes...) },
		} {
			l()
			if b, e := Pack(v); e != api.OK || !bytes.Equal(b, say(n)) {
				t.Errorf("%+v: %x, %d", v, b, e)
			}
		}
	}
}

func TestExamples(t *testing.T) {
	d := bytes.Repeat([]byte{0xD1}, 32)
	for _, c := range []struct {
		n    api.Note
		want string
	}{
		{api.Note{Kind: api.NotePrepare, From: 3, Group: 1, Epoch: 2, Seq: 7, Digest: api.Digest(d)}, "01 04, 01 03, 01 01, 01 02, 00, 01 07, " + strings.Repeat("D1", 32)},
		{api.Note{Kind: api.NotePropose, From: 1, Epoch: 1, View: 1, Seq: 300}, "01 03, 01 01, 00, 01 01, 01 01, 02 01 2c, 01 01 00"},
		{api.Note{Kind: api.NoteOrder, From: 2, Group: 1, Epoch: 5, Nodes: []int{5, 6, 7, 9}}, "01 0c, 01 02, 01 01, 01 05, 01 04, 01 05, 01 06, 01 07, 01 09"},
		{api.Note{Kind: api.NoteBatch, From: 2}, "01 10, 01 02, 00, 00, 01 01 00"},
		{api.Note{Kind: api.NoteReply, From: 2, Group: 1, Epoch: 5, Node: 31, Stamp: 256, Answer: api.Answer{Err: 171, Data: []byte{7, 8}, Epoch: 6, Nodes: []int{9, 3}}}, "01 02, 01 02, 01 01, 01 05, 01 1f, 02 01 00, 01 ab, 01 02 07 08, 01 06, 01 02, 01 09, 01 03"},
		{api.Note{Kind: api.NoteLook, From: 31, Group: 1, Batch: []api.Wish{{Kind: 1, Client: 31, Stamp: 5, Group: 1, Block: 3}}}, "01 0e, 01 1f, 01 01, 00, 01 13, 01 01, 01 0f, 01 01 01 1f 01 05 01 01 00 01 03 00 00 00 00"},
	} {
		want, err := hex.DecodeString(strings.NewReplacer(" ", "", ",", "").Replace(c.want))
		if err != nil {
			t.Fatal(err)
		}
		if b, e := Pack(c.n); e != api.OK || !bytes.Equal(b, want) {
			t.Errorf("%+v: %x, %d; want %x", c.n, b, e, want)
		}
		if n, e := Unpack(want); e != api.OK || !alike(n, c.n) {
			t.Errorf("%x: %+v, %d", want, n, e)
		}
	}
}

// P12.2

func TestUnpack(t *testing.T) {
	may, mayNot := 0, 0
	for _, n := range append(goods(), varied()...) {
		if !sayable(n) {
			continue
		}
		b := say(n)
		ok := unpacks(t, b)
		if mayNote(n) {
			may++
			if m, e := Unpack(b); e != api.OK || !alike(m, n) {
				t.Errorf("%+v: %+v, %d", n, m, e)
			}
		} else if !ok {
			mayNot++
		}
	}
	if may < 1000 || mayNot < 1000 {
		t.Errorf("%d may be, %d may not", may, mayNot)
	}
}

// Of no note's bytes are the beginning, or something longer, another one's.
func TestUnpackOfBeginnings(t *testing.T) {
	for _, n := range goods() {
		b := say(n)
		for i := range b {
			if m, e := Unpack(b[:i]); e != api.ErrSyntax || !reflect.DeepEqual(m, api.Note{}) {
				t.Errorf("%x: %+v, %d", b[:i], m, e)
			}
		}
		for _, more := range [][]byte{{0}, {1, 1}, {8}, {255}, b, make([]byte, 300)} {
			if m, e := Unpack(append(bytes.Clone(b), more...)); e != api.ErrSyntax || !reflect.DeepEqual(m, api.Note{}) {
				t.Errorf("%x and %x: %+v, %d", b, more, m, e)
			}
		}
	}
}

func TestUnpackOfSpoiled(t *testing.T) {
	r := rand.New(rand.NewSource(12))
	read := map[int]int{}
	for _, n := range goods() {
		b := say(n)
		for range 1500 {
			c := spoiled(r, b)
			if unpacks(t, c) && !bytes.Equal(b, c) {
				read[n.Kind]++
			}
		}
	}
	for kind := 1; kind <= 16; kind++ {
		if read[kind] == 0 {
			t.Errorf("of the kind %d none that was spoiled could be read", kind)
		}
	}
}

func TestUnpackOfAny(t *testing.T) {
	for _, b := range [][]byte{nil, {}, {0}, {1}, {8}, {255}, make([]byte, 9), make([]byte, 1<<17), bytes.Repeat([]byte{1}, 1<<17), bytes.Repeat([]byte{255}, 1<<17)} {
		if n, e := Unpack(b); e != api.ErrSyntax || !reflect.DeepEqual(n, api.Note{}) {
			t.Errorf("%d bytes: %+v, %d", len(b), n, e)
		}
	}
	r := rand.New(rand.NewSource(3))
	for range 20000 {
		b := []byte{1, byte(r.Intn(18)), 1, byte(1 + r.Intn(34))}
		for range r.Intn(60) {
			b = append(b, byte(r.Intn(4)))
		}
		unpacks(t, b)
	}
}

// Numbers that say how many there are, though these are not there, or more than may be.
func TestUnpackOfCounts(t *testing.T) {
	head := func(kind int) []byte { return nums(kind, 3, 1, 2) }
	d := make([]byte, 32)
	for _, many := range []int{1, 2, 7, 8, 9, 32, 33, 255, 256, 1024, 1025, 65536, 65537, 1 << 32, 1<<32 + 1, api.MaxNumber, 1 << 53, 1<<56 - 1} {
		for i, b := range [][]byte{
			join(head(2), nums(31, 5, 0), num(many)), join(head(2), nums(31, 5, 0), str(nil), nums(0, many)),
			join(head(3), nums(0, 7), num(many)), join(head(3), nums(0, 7), str(num(many))), join(head(16), str(join(num(1), num(many)))),
			join(head(7), nums(3, 1, 0, many)), join(head(7), nums(3, 1, 0, 1, 0), d, num(many)), join(head(7), nums(3, 1, 0, 1, 0), d, nums(0, many)),
			join(head(9), nums(1, many)), join(head(9), nums(1, 1), sayChange(leastChange(1)), num(many)), join(head(9), nums(1, 1), sayChange(leastChange(1)), nums(1, 1), d, num(many)),
			join(head(11), num(1), d, nums(0, 0, many)), join(head(11), num(1), d, nums(0, 0, 0, many)), join(head(12), num(many)),
		} {
			if n, e := Unpack(b); e != api.ErrSyntax || !reflect.DeepEqual(n, api.Note{}) {
				t.Errorf("%d of %d: %+v, %d", many, i, n, e)
			}
			unpacks(t, append(b, make([]byte, 200)...))
			unpacks(t, append(b, bytes.Repeat([]byte{1}, 200)...))
		}
	}
}

// P12.3

func TestMemoryOfUnpack(t *testing.T) {
	for _, n := range goods() {
		room := append(say(n), 1, 2, 3, 4, 5, 6, 7, 8, 9)
		before := bytes.Clone(room)
		b := room[:len(room)-9]
		first, _ := Unpack(b)
		second, _ := Unpack(b)
		if !bytes.Equal(room, before) {
			t.Errorf("%+v: what was handed in was changed", n)
		}
		turn(room)
		if !alike(first, n) || !alike(second, n) {
			t.Errorf("%+v: bytes that were handed in are in the note", n)
		}
		want := plain(n)
		spoil(&first)
		spoil(&want)
		if !alike(first, want) {
			t.Errorf("%+v: two lists share memory", n)
		}
		if !alike(second, n) {
			t.Errorf("%+v: two answers share memory", n)
		}
	}
}

func TestMemoryOfPack(t *testing.T) {
	for _, n := range goods() {
		n = plain(n)
		before := plain(n)
		b, _ := Pack(n)
		again, _ := Pack(n)
		if !reflect.DeepEqual(n, before) {
			t.Errorf("%+v: it was changed", n)
		}
		turn(b)
		if !alike(n, before) || !bytes.Equal(again, say(before)) {
			t.Errorf("%+v: what was answered is shared", n)
		}
		spoil(&n)
		if !bytes.Equal(again, say(before)) {
			t.Errorf("%+v: what was handed in is in the answer", before)
		}
	}
}

func TestMemoryOfChange(t *testing.T) {
	for _, c := range []api.Change{aChange(3), leastChange(1), fullChange(28)} {
		before := plainChange(c)
		b, _ := Change(c)
		again, _ := Change(c)
		turn(b)
		if !reflect.DeepEqual(plainChange(c), before) || !bytes.Equal(again, sayChange(before)) {
			t.Errorf("%+v: what was answered is shared", c)
		}
		spoilChange(&c)
		if !bytes.Equal(again, sayChange(before)) {
			t.Errorf("%+v: what was handed in is in the answer", c)
		}
	}
}

// What may not be is not changed either, nor is the spare room of what may.
func TestMemoryOfWhatMayNotBe(t *testing.T) {
	for _, n := range basics() {
		n = plain(n)
		n.Place = -1
		n.Nodes = append(make([]int, 0, 9), 28, 27)
		n.Picks = append(n.Picks, api.Pick{Seq: -4, Batch: []api.Wish{{Kind: 9, Data: data(300)}}})
		n.Changes = append(n.Changes, api.Change{Q: make([]api.Stand, 99)})
		before := plain(n)
		if Check(n) == api.OK {
			t.Errorf("%+v may be", n)
		}
		Pack(n)
		Change(n.Changes[len(n.Changes)-1])
		if !reflect.DeepEqual(plain(n), before) || !slices.Equal(n.Nodes[:9], append([]int{28, 27}, make([]int, 7)...)) {
			t.Errorf("%+v: it was changed", before)
		}
	}
}

// What only reads may be called by many at once.
func TestAtOnce(t *testing.T) {
	l := goods()
	var w sync.WaitGroup
	for range 4 {
		w.Go(func() {
			for _, n := range l {
				b, e := Pack(n)
				m, f := Unpack(b)
				if e != api.OK || f != api.OK || !alike(m, n) {
					t.Errorf("%+v: %d, %d", n, e, f)
				}
			}
		})
	}
	w.Wait()
}

// P12.4

func TestOneWay(t *testing.T) {
	r := rand.New(rand.NewSource(4))
	for _, n := range goods() {
		b, e := Pack(n)
		m, f := Unpack(b)
		if e != api.OK || f != api.OK || !alike(m, n) {
			t.Errorf("%+v: %+v, %d, %d", n, m, e, f)
		}
		for range 500 {
			c := spoiled(r, b)
			m, e := Unpack(c)
			if e != api.OK {
				continue
			}
			if again, f := Pack(m); f != api.OK || !bytes.Equal(again, c) {
				t.Errorf("%x: %+v, %x, %d", c, m, again, f)
			}
		}
	}
}

// Each bit of a note's bytes counts.
func TestEachBit(t *testing.T) {
	for _, n := range slices.Concat(basics(), leasts()) {
		b, _ := Pack(n)
		for i := range 8 * len(b) {
			c := bytes.Clone(b)
			c[i/8] ^= 1 << (i % 8)
			if m, e := Unpack(c); e == api.OK && alike(m, n) {
				t.Errorf("%+v: the bit %d", n, i)
			}
		}
	}
}

func TestUnlikeNotesHaveUnlikeBytes(t *testing.T) {
	seen := map[string]api.Note{}
	for _, n := range append(goods(), varied()...) {
		b, e := Pack(n)
		if e != api.OK {
			continue
		}
		if m, ok := seen[string(b)]; ok && !alike(m, n) {
			t.Errorf("%+v and %+v: %x", m, n, b)
		}
		seen[string(b)] = n
	}
}

func TestSize(t *testing.T) {
	for _, n := range fulls() {
		b, e := Pack(n)
		if e != api.OK || len(b) > 65536 {
			t.Errorf("%+v: %d bytes, %d", n, len(b), e)
		}
	}
}
