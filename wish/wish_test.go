package wish

import (
	"bytes"
	"crypto/sha256"
	"encoding/hex"
	"fmt"
	"math"
	"math/rand"
	"reflect"
	"slices"
	"strings"
	"sync"
	"testing"

	"bastide/api"
	"bastide/ink"
)

// data is a block's bytes.
func data() []byte {
	return []byte{0, 1, 2, 3, 4, 5, 6, 7, 8, 9, 10, 11, 12, 13, 14, 255}
}

// hexed is bytes from the chapter's way of writing them.
func hexed(t *testing.T, s string) []byte {
	t.Helper()
	b, err := hex.DecodeString(strings.NewReplacer(" ", "", ",", "").Replace(s))
	if err != nil {
		t.Fatal(err)
	}
	return b
}

// goods are wishes that may be: of each kind, with the least and the greatest of each field.
func goods() []api.Wish {
	var out []api.Wish
	for _, client := range []int{31, 32, 33, 34} {
		for _, stamp := range []int{1, 255, 256, api.MaxNumber} {
			for _, epoch := range []int{0, 1, 1 << 20} {
				for _, block := range []int{0, 7} {
					for _, group := range []int{1, 2} {
						w := api.Wish{Kind: 1, Client: client, Stamp: stamp, Group: group, Epoch: epoch, Block: block}
						out = append(out, w)
						w.Kind, w.Data = 2, data()
						out = append(out, w)
					}
				}
			}
			for _, block := range []int{1, 2} {
				w := api.Wish{Kind: 3, Client: client, Stamp: stamp, Block: block}
				out = append(out, w)
				w.Kind = 4
				for _, swap := range [][2]int{{1, 28}, {28, 1}, {7, 8}} {
					w.Old, w.New = swap[0], swap[1]
					out = append(out, w)
				}
			}
		}
	}
	for _, group := range []int{1, 2} {
		for _, epoch := range []int{0, 3, 1 << 20} {
			for _, next := range [][]int{{1}, {28}, {1, 2, 3, 4}, {25, 26, 27, 28}, {1, 2, 3, 4, 5, 6, 28}} {
				out = append(out, api.Wish{Kind: 5, Group: group, Epoch: epoch, Next: next})
			}
		}
	}
	return out
}

// basics are one wish of each kind, and one more seal.
func basics() []api.Wish {
	return []api.Wish{
		{Kind: 1, Client: 31, Stamp: 5, Group: 1, Block: 3},
		{Kind: 2, Client: 33, Stamp: 6, Group: 2, Epoch: 4, Block: 1, Data: data()},
		{Kind: 3, Client: 34, Stamp: 7, Block: 1},
		{Kind: 4, Client: 34, Stamp: 8, Block: 2, Old: 3, New: 12},
		{Kind: 5, Group: 2, Epoch: 1, Next: []int{1, 2, 3, 4}},
		{Kind: 5, Group: 1, Epoch: 9, Next: []int{6}},
	}
}

// odd are numbers to put into fields: those at the edges of all that is named, and some of which the low bits are within.
func odd() []int {
	return []int{math.MinInt, -1 << 53, -1 << 32, -34, -1, 0, 1, 2, 3, 4, 5, 6, 7, 8, 9, 16, 27, 28, 29, 30, 31, 32, 33, 34, 35, 255, 256, 257, 1<<20 - 1, 1 << 20, 1<<20 + 1, 1 << 32, 1<<32 + 1, 1<<32 + 31, api.MaxNumber, api.MaxNumber + 1, math.MaxInt}
}

// listsOfNodes are some that may be a crew's, and some that may not.
func listsOfNodes() [][]int {
	return [][]int{
		nil, {}, {1}, {28}, {0}, {29}, {-1}, {1<<32 + 1}, {1, 2}, {1, 2, 3}, {1, 2, 3, 4}, {25, 26, 27, 28}, {25, 26, 27, 29}, {0, 1, 2, 3}, {-1, 0, 1, 2},
		{1, 2, 4, 3}, {1, 1, 2, 3}, {1, 2, 2, 3}, {1, 2, 3, 3}, {4, 3, 2, 1}, {2, 1, 3, 4}, {1, 2, 3, 4, 5}, {1, 2, 3, 4, 5, 6},
		{1, 2, 3, 4, 5, 6, 7}, {22, 23, 24, 25, 26, 27, 28}, {1, 2, 3, 4, 5, 6, 6}, {1, 2, 3, 5, 4, 6, 7}, {1, 2, 3, 4, 5, 6, 29}, {1, 2, 3, 4, 5, 6, 7, 8}, {1, 2, 3, 4, 5, 6, 7, 8, 9, 10},
	}
}

// varied are the basics with one field, or two, made another.
func varied() []api.Wish {
	var out []api.Wish
	fields := []func(w *api.Wish) *int{
		func(w *api.Wish) *int { return &w.Kind }, func(w *api.Wish) *int { return &w.Client }, func(w *api.Wish) *int { return &w.Stamp },
		func(w *api.Wish) *int { return &w.Group }, func(w *api.Wish) *int { return &w.Epoch }, func(w *api.Wish) *int { return &w.Block },
		func(w *api.Wish) *int { return &w.Old }, func(w *api.Wish) *int { return &w.New },
	}
	for _, w := range basics() {
		for i, f := range fields {
			for _, n := range odd() {
				v := w
				*f(&v) = n
				out = append(out, v)
				for _, g := range fields[i+1:] {
					for _, m := range odd() {
						u := v
						*g(&u) = m
						out = append(out, u)
					}
				}
			}
		}
		for _, l := range listsOfNodes() {
			v := w
			v.Next = l
			out = append(out, v)
		}
		for _, n := range []int{0, 1, 15, 16, 17, 32, 256, 272} {
			v := w
			v.Data = make([]byte, n)
			out = append(out, v)
		}
	}
	return out
}

// may tells by the chapter's table whether a wish may be.
func may(w api.Wish) bool {
	in := func(n, a, b int) bool { return a <= n && n <= b }
	want := api.Wish{Kind: w.Kind, Epoch: w.Epoch} // what is named, all else zero
	ok := in(w.Epoch, 0, 1048576)
	if in(w.Kind, 1, 4) {
		ok = ok && in(w.Client, 31, 34) && in(w.Stamp, 1, 9007199254740991)
		want.Client, want.Stamp = w.Client, w.Stamp
	}
	switch w.Kind {
	case 1:
		ok = ok && in(w.Group, 1, 2) && in(w.Block, 0, 7)
		want.Group, want.Block = w.Group, w.Block
	case 2:
		ok = ok && in(w.Group, 1, 2) && in(w.Block, 0, 7) && len(w.Data) == 16
		want.Group, want.Block, want.Data = w.Group, w.Block, w.Data
	case 3:
		ok = ok && w.Epoch == 0 && in(w.Block, 1, 2)
		want.Block = w.Block
	case 4:
		ok = ok && w.Epoch == 0 && in(w.Block, 1, 2) && in(w.Old, 1, 28) && in(w.New, 1, 28) && w.Old != w.New
		want.Block, want.Old, want.New = w.Block, w.Old, w.New
	case 5:
		ok = ok && in(w.Group, 1, 2) && (len(w.Next) == 1 || len(w.Next) == 4 || len(w.Next) == 7)
		for i, n := range w.Next {
			ok = ok && in(n, 1, 28) && (i == 0 || n > w.Next[i-1])
		}
		want.Group, want.Next = w.Group, w.Next
	default:
		ok = false
	}
	return ok && alike(w, want)
}

// plain is a wish without the unlikeness of nil and empty lists.
func plain(w api.Wish) api.Wish {
	w.Data = append([]byte{}, w.Data...)
	w.Next = append([]int{}, w.Next...)
	return w
}

func alike(a, b api.Wish) bool {
	return reflect.DeepEqual(plain(a), plain(b))
}

// num and str are bytes by the words of the chapter 1; of any number of 7 bytes, not only of those that may be.
func num(n int) []byte {
	var low []byte
	for ; n > 0; n /= 256 {
		low = append([]byte{byte(n % 256)}, low...)
	}
	return append([]byte{byte(len(low))}, low...)
}

func str(b []byte) []byte {
	return append(num(len(b)), b...)
}

// said is a wish's bytes by the chapter's words, also of one that may not be (of numbers from 0 to below 2^56).
func said(w api.Wish) []byte {
	var out []byte
	for _, n := range []int{w.Kind, w.Client, w.Stamp, w.Group, w.Epoch, w.Block} {
		out = append(out, num(n)...)
	}
	out = append(out, str(w.Data)...)
	for _, n := range append([]int{w.Old, w.New, len(w.Next)}, w.Next...) {
		out = append(out, num(n)...)
	}
	return out
}

// saidBatch is a batch's bytes, likewise.
func saidBatch(l []api.Wish) []byte {
	out := num(len(l))
	for _, w := range l {
		out = append(out, str(said(w))...)
	}
	return out
}

// sayable tells whether said can say a wish.
func sayable(w api.Wish) bool {
	for _, n := range append([]int{w.Kind, w.Client, w.Stamp, w.Group, w.Epoch, w.Block, w.Old, w.New}, w.Next...) {
		if n < 0 || n >= 1<<56 {
			return false
		}
	}
	return true
}

// fault is a thrown error of the models that read.
type fault api.Errno

// caught does what may throw a fault, and tells it.
func caught(f func()) (e api.Errno) {
	defer func() {
		if x := recover(); x != nil {
			e = api.Errno(x.(fault))
		}
	}()
	f()
	return api.OK
}

func readNum(b *[]byte) int {
	l := *b
	if len(l) == 0 {
		panic(fault(api.ErrTrunc))
	}
	n := 0
	size := int(l[0])
	if size > 7 {
		panic(fault(api.ErrSyntax))
	}
	if len(l) < 1+size {
		panic(fault(api.ErrTrunc))
	}
	if size > 0 && l[1] == 0 {
		panic(fault(api.ErrSyntax))
	}
	for _, x := range l[1 : 1+size] {
		n = n*256 + int(x)
	}
	if n > 9007199254740991 {
		panic(fault(api.ErrRange))
	}
	*b = l[1+size:]
	return n
}

func readStr(b *[]byte, most int) []byte {
	n := readNum(b)
	if n > most {
		panic(fault(api.ErrLimit))
	}
	if len(*b) < n {
		panic(fault(api.ErrTrunc))
	}
	out := (*b)[:n]
	*b = (*b)[n:]
	return out
}

func readMany(b *[]byte, most int) int {
	n := readNum(b)
	if n > most {
		panic(fault(api.ErrLimit))
	}
	return n
}

// model reads a wish by the words of P11.2, modelBatch a batch by those of P11.3.
func model(b []byte) (w api.Wish, e api.Errno) {
	e = caught(func() {
		for _, f := range []*int{&w.Kind, &w.Client, &w.Stamp, &w.Group, &w.Epoch, &w.Block} {
			*f = readNum(&b)
		}
		w.Data = readStr(&b, 16)
		w.Old = readNum(&b)
		w.New = readNum(&b)
		for range readMany(&b, 7) {
			w.Next = append(w.Next, readNum(&b))
		}
		if len(b) > 0 {
			panic(fault(api.ErrSyntax))
		}
		if !may(w) {
			panic(fault(api.ErrArg))
		}
	})
	return w, e
}

func modelBatch(b []byte) (l []api.Wish, e api.Errno) {
	e = caught(func() {
		for range readMany(&b, 4) {
			w, e := model(readStr(&b, 256))
			if e != api.OK {
				panic(fault(e))
			}
			l = append(l, w)
		}
		if len(b) > 0 {
			panic(fault(api.ErrSyntax))
		}
	})
	return l, e
}

// sameAsModel holds Parse against the model.
func sameAsModel(t *testing.T, b []byte) api.Errno {
	t.Helper()
	w, e := Parse(b)
	v, f := model(b)
	if f != api.OK {
		v = api.Wish{}
	}
	if e != f || !alike(w, v) {
		t.Errorf("%x: %+v, %d; want %+v, %d", b, w, e, v, f)
	}
	return f
}

// batchSameAsModel holds Unbatch against the model.
func batchSameAsModel(t *testing.T, b []byte) api.Errno {
	t.Helper()
	l, e := Unbatch(b)
	m, f := modelBatch(b)
	if f != api.OK {
		m = nil
	}
	if e != f || !slices.EqualFunc(l, m, alike) {
		t.Errorf("%x: %+v, %d; want %+v, %d", b, l, e, m, f)
	}
	return f
}

// spoiled is bytes in which a little is made another: a bit, a byte, some taken out, put in, or doubled.
func spoiled(r *rand.Rand, b []byte) []byte {
	out := bytes.Clone(b)
	for range 1 + r.Intn(3) {
		if len(out) == 0 {
			return []byte{byte(r.Intn(9))}
		}
		i := r.Intn(len(out))
		switch r.Intn(6) {
		case 0:
			out[i] ^= 1 << r.Intn(8)
		case 1:
			out[i] = byte(r.Intn(36))
		case 2:
			out = append(out[:i], out[i+1:]...)
		case 3:
			out = slices.Insert(out, i, byte(r.Intn(9)))
		case 4:
			out = out[:i]
		case 5:
			out = append(out, out[i:]...)
		}
	}
	return out
}

// P11.1

func TestCheck(t *testing.T) {
	for _, w := range goods() {
		if e := Check(w); e != api.OK {
			t.Errorf("%+v: %d", w, e)
		}
	}
	many := 0
	for _, w := range varied() {
		want := api.OK
		if !may(w) {
			want = api.ErrArg
		} else {
			many++
		}
		if e := Check(w); e != want {
			t.Errorf("%+v: %d, want %d", w, e, want)
		}
	}
	if many < 100 {
		t.Errorf("%d of the varied may be", many)
	}
}

func TestCheckOfEachRow(t *testing.T) {
	read := api.Wish{Kind: 1, Client: 31, Stamp: 1, Group: 1}
	write := api.Wish{Kind: 2, Client: 31, Stamp: 1, Group: 1, Data: make([]byte, 16)}
	query := api.Wish{Kind: 3, Client: 31, Stamp: 1, Block: 1}
	replace := api.Wish{Kind: 4, Client: 31, Stamp: 1, Block: 1, Old: 1, New: 2}
	seal := api.Wish{Kind: 5, Group: 1, Next: []int{1}}
	for _, w := range []api.Wish{read, write, query, replace, seal} {
		if e := Check(w); e != api.OK {
			t.Errorf("%+v: %d", w, e)
		}
	}
	with := func(w api.Wish, f func(w *api.Wish)) api.Wish {
		f(&w)
		return w
	}
	for i, w := range []api.Wish{
		{}, {Kind: -1, Client: 31, Stamp: 1, Group: 1}, {Kind: 6, Client: 31, Stamp: 1, Group: 1}, {Kind: 6, Group: 1, Next: []int{1}},
		with(read, func(w *api.Wish) { w.Epoch = -1 }), with(read, func(w *api.Wish) { w.Epoch = 1<<20 + 1 }),
		with(seal, func(w *api.Wish) { w.Epoch = -1 }), with(seal, func(w *api.Wish) { w.Epoch = 1<<20 + 1 }),
		with(read, func(w *api.Wish) { w.Client = 30 }), with(read, func(w *api.Wish) { w.Client = 35 }), with(read, func(w *api.Wish) { w.Client = 0 }),
		with(read, func(w *api.Wish) { w.Stamp = 0 }), with(read, func(w *api.Wish) { w.Stamp = 1 << 53 }), with(read, func(w *api.Wish) { w.Stamp = -1 }),
		with(read, func(w *api.Wish) { w.Group = 0 }), with(read, func(w *api.Wish) { w.Group = 3 }),
		with(read, func(w *api.Wish) { w.Block = -1 }), with(read, func(w *api.Wish) { w.Block = 8 }),
		with(read, func(w *api.Wish) { w.Data = make([]byte, 16) }), with(read, func(w *api.Wish) { w.Data = make([]byte, 1) }),
		with(read, func(w *api.Wish) { w.Old = 1 }), with(read, func(w *api.Wish) { w.New = 1 }), with(read, func(w *api.Wish) { w.Next = []int{1} }),
		with(write, func(w *api.Wish) { w.Data = nil }), with(write, func(w *api.Wish) { w.Data = w.Data[:15] }), with(write, func(w *api.Wish) { w.Data = make([]byte, 17) }),
		with(write, func(w *api.Wish) { w.Old = 1 }), with(write, func(w *api.Wish) { w.Next = []int{0} }), with(write, func(w *api.Wish) { w.Group = 0 }),
		with(query, func(w *api.Wish) { w.Group = 1 }), with(query, func(w *api.Wish) { w.Epoch = 1 }), with(query, func(w *api.Wish) { w.Block = 0 }), with(query, func(w *api.Wish) { w.Block = 3 }),
		with(query, func(w *api.Wish) { w.Old, w.New = 1, 2 }), with(query, func(w *api.Wish) { w.Data = make([]byte, 16) }), with(query, func(w *api.Wish) { w.Next = []int{1} }),
		with(replace, func(w *api.Wish) { w.Group = 1 }), with(replace, func(w *api.Wish) { w.Epoch = 1 }), with(replace, func(w *api.Wish) { w.Block = 0 }), with(replace, func(w *api.Wish) { w.Block = 3 }),
		with(replace, func(w *api.Wish) { w.Old = 2 }), with(replace, func(w *api.Wish) { w.Old = 0 }), with(replace, func(w *api.Wish) { w.New = 0 }),
		with(replace, func(w *api.Wish) { w.Old = 29 }), with(replace, func(w *api.Wish) { w.New = 29 }), with(replace, func(w *api.Wish) { w.Old, w.New = 0, 0 }),
		with(replace, func(w *api.Wish) { w.Data = make([]byte, 16) }), with(replace, func(w *api.Wish) { w.Next = []int{1} }), with(replace, func(w *api.Wish) { w.Client = 28 }),
		with(seal, func(w *api.Wish) { w.Client = 31 }), with(seal, func(w *api.Wish) { w.Stamp = 1 }), with(seal, func(w *api.Wish) { w.Client, w.Stamp = 31, 1 }),
		with(seal, func(w *api.Wish) { w.Group = 0 }), with(seal, func(w *api.Wish) { w.Group = 3 }), with(seal, func(w *api.Wish) { w.Block = 1 }),
		with(seal, func(w *api.Wish) { w.Data = make([]byte, 16) }), with(seal, func(w *api.Wish) { w.Old, w.New = 1, 2 }), with(seal, func(w *api.Wish) { w.Next = nil }),
		with(seal, func(w *api.Wish) { w.Next = []int{1, 2, 3, 4, 5, 6, 7, 8, 9, 10} }), with(seal, func(w *api.Wish) { w.Next = []int{1, 2, 3} }),
		with(seal, func(w *api.Wish) { w.Next = []int{1, 3, 2, 4} }), with(seal, func(w *api.Wish) { w.Next = []int{1, 2, 3, 3} }), with(seal, func(w *api.Wish) { w.Next = []int{0, 1, 2, 3} }),
		with(seal, func(w *api.Wish) { w.Next = []int{26, 27, 28, 29} }), with(seal, func(w *api.Wish) { w.Next = []int{-3} }),
	} {
		if e := Check(w); e != api.ErrArg {
			t.Errorf("%d: %+v: %d", i, w, e)
		}
		if b, e := Bytes(w); e != api.ErrArg || len(b) != 0 {
			t.Errorf("%d: %+v: %x, %d", i, w, b, e)
		}
	}
}

func TestBytes(t *testing.T) {
	for _, w := range append(goods(), varied()...) {
		b, e := Bytes(w)
		switch {
		case !may(w):
			if e != api.ErrArg || len(b) != 0 {
				t.Errorf("%+v: %x, %d", w, b, e)
			}
		case e != api.OK || !bytes.Equal(b, said(w)):
			t.Errorf("%+v: %x, %d; want %x", w, b, e, said(w))
		}
	}
}

func TestSame(t *testing.T) {
	if !Same(api.Wish{}, api.Wish{}) {
		t.Error("of nothing")
	}
	if a, b := (api.Wish{Data: nil, Next: []int{}}), (api.Wish{Data: []byte{}, Next: nil}); !Same(a, b) || !Same(b, a) {
		t.Error("lists without elements")
	}
	// also of wishes that may not be
	full := api.Wish{Client: -1, Stamp: 2, Group: 3, Epoch: 4, Kind: 5, Block: 6, Data: []byte{7, 8}, Old: 9, New: 10, Next: []int{11, 12}}
	if !Same(full, plain(full)) {
		t.Error("all fields")
	}
	for i, f := range []func(w *api.Wish){
		func(w *api.Wish) { w.Client = 1 }, func(w *api.Wish) { w.Stamp = 1 }, func(w *api.Wish) { w.Group = 1 }, func(w *api.Wish) { w.Epoch = 1 },
		func(w *api.Wish) { w.Kind = 1 }, func(w *api.Wish) { w.Block = 1 }, func(w *api.Wish) { w.Old = 1 }, func(w *api.Wish) { w.New = 1 },
		func(w *api.Wish) { w.Data = nil }, func(w *api.Wish) { w.Data = []byte{7} }, func(w *api.Wish) { w.Data = []byte{7, 9} }, func(w *api.Wish) { w.Data = []byte{7, 8, 0} },
		func(w *api.Wish) { w.Next = nil }, func(w *api.Wish) { w.Next = []int{11} }, func(w *api.Wish) { w.Next = []int{12, 11} }, func(w *api.Wish) { w.Next = []int{11, 12, 0} },
		func(w *api.Wish) { w.Stamp += 1 << 32 }, func(w *api.Wish) { w.Next = []int{11, 12 + 1<<32} }, func(w *api.Wish) { w.Old, w.New = w.New, w.Old },
	} {
		other := plain(full)
		f(&other)
		if Same(full, other) || Same(other, full) || !Same(other, plain(other)) {
			t.Errorf("%d: %+v", i, other)
		}
	}
	l := append(goods(), basics()...)
	for i, a := range l {
		for _, b := range l[max(0, i-40):] {
			if Same(a, b) != alike(a, b) {
				t.Errorf("%+v, %+v", a, b)
			}
		}
	}
}

// P11.2

func TestParse(t *testing.T) {
	for _, w := range append(goods(), varied()...) {
		if !sayable(w) {
			continue
		}
		b := said(w)
		e := sameAsModel(t, b)
		if (e == api.OK) != may(w) {
			t.Errorf("%+v: %x: %d", w, b, e)
		}
	}
}

// Of each beginning it is told that it ends too early; of each longer one that bytes are left.
func TestParseOfBeginnings(t *testing.T) {
	for _, w := range goods() {
		b := said(w)
		for i := range b {
			if v, e := Parse(b[:i]); e != api.ErrTrunc || !alike(v, api.Wish{}) {
				t.Errorf("%x: %+v, %d", b[:i], v, e)
			}
		}
		for _, more := range [][]byte{{0}, {1, 1}, {8}, {255}, b, make([]byte, 300)} {
			if v, e := Parse(append(bytes.Clone(b), more...)); e != api.ErrSyntax || !alike(v, api.Wish{}) {
				t.Errorf("%x and %x: %+v, %d", b, more, v, e)
			}
		}
	}
}

// faults are pieces that stand in the stead of a number, and what is told of them.
func faults() []struct {
	b []byte
	e api.Errno
} {
	return []struct {
		b []byte
		e api.Errno
	}{
		{[]byte{8, 1, 1, 1, 1, 1, 1, 1, 1}, api.ErrSyntax}, {[]byte{255}, api.ErrSyntax}, {[]byte{1, 0}, api.ErrSyntax}, {[]byte{2, 0, 1}, api.ErrSyntax},
		{[]byte{7, 0, 1, 1, 1, 1, 1, 1}, api.ErrSyntax}, {[]byte{7, 0x20, 0, 0, 0, 0, 0, 0}, api.ErrRange}, {[]byte{7, 255, 255, 255, 255, 255, 255, 255}, api.ErrRange},
	}
}

// pieces are a wish's bytes, number by number; the sixth one behind them is the text.
func pieces(w api.Wish) [][]byte {
	out := [][]byte{num(w.Kind), num(w.Client), num(w.Stamp), num(w.Group), num(w.Epoch), num(w.Block), str(w.Data), num(w.Old), num(w.New), num(len(w.Next))}
	for _, n := range w.Next {
		out = append(out, num(n))
	}
	return out
}

func TestParseTellsTheFirst(t *testing.T) {
	for _, w := range basics() {
		l := pieces(w)
		for i := range l {
			for _, f := range faults() {
				m := slices.Clone(l)
				m[i] = f.b
				if _, e := Parse(bytes.Join(m, nil)); e != f.e {
					t.Errorf("%+v, %d, %x: %d", w, i, f.b, e)
				}
				// what stands behind is not looked at
				for _, g := range faults() {
					for j := i + 1; j < len(l); j++ {
						m[j] = g.b
						if _, e := Parse(bytes.Join(m, nil)); e != f.e {
							t.Errorf("%+v, %d, %x, %d, %x: %d", w, i, f.b, j, g.b, e)
						}
						m[j] = l[j]
					}
				}
				// nor what may not be ahead
				for j := range i {
					if j == 6 || j == 9 { // how long the text is, and how many Next are
						continue
					}
					m[j] = num(99)
					if _, e := Parse(bytes.Join(m, nil)); e != f.e {
						t.Errorf("%+v, %d, %x, behind 99: %d", w, i, f.b, e)
					}
					m[j] = l[j]
				}
			}
		}
	}
}

func TestParseOfTooMuch(t *testing.T) {
	head := []byte{1, 2, 1, 31, 1, 5, 1, 1, 0, 1, 3}
	for _, c := range []struct {
		tail []byte
		want api.Errno
	}{
		{append(str(make([]byte, 17)), 0, 0, 0), api.ErrLimit},
		{[]byte{1, 17}, api.ErrLimit}, // though none of them is there
		{[]byte{2, 1, 0}, api.ErrLimit},
		{[]byte{2, 1, 16}, api.ErrLimit},
		{num(1 << 32), api.ErrLimit},
		{num(api.MaxNumber), api.ErrLimit},
		{num(1 << 53), api.ErrRange},
		{append(str(make([]byte, 16)), 0, 0, 0), api.OK},
		{append(str(make([]byte, 15)), 0, 0, 0), api.ErrArg},
		{str(make([]byte, 16)), api.ErrTrunc},
		{append([]byte{1, 16}, make([]byte, 15)...), api.ErrTrunc},
		{[]byte{0, 0, 0, 1, 8}, api.ErrLimit}, // likewise
		{[]byte{0, 0, 0, 1, 7}, api.ErrTrunc},
		{[]byte{0, 0, 0, 2, 1, 0}, api.ErrLimit},
		{[]byte{0, 0, 0, 2, 1, 1}, api.ErrLimit},
		{append([]byte{0, 0, 0}, num(1<<32+1)...), api.ErrLimit},
		{append([]byte{0, 0, 0}, num(api.MaxNumber)...), api.ErrLimit},
		{append([]byte{0, 0, 0}, num(1<<53)...), api.ErrRange},
		{[]byte{0, 0, 0, 1, 8, 1, 1, 1, 2, 1, 3, 1, 4, 1, 5, 1, 6, 1, 7, 1, 8}, api.ErrLimit},
		{[]byte{0, 0, 0, 1, 7, 1, 1, 1, 2, 1, 3, 1, 4, 1, 5, 1, 6, 1, 7}, api.ErrArg}, // of a write
		{[]byte{0, 0, 0, 0, 0}, api.ErrSyntax},                                        // what is left is told ahead of a write without Data
		{[]byte{1, 17, 8}, api.ErrLimit},
		{[]byte{0, 0, 0, 1, 8, 8}, api.ErrLimit},
		{[]byte{0, 0, 0, 1, 1, 8}, api.ErrSyntax},
		{[]byte{0, 0, 0, 1, 1, 1, 99, 0}, api.ErrSyntax},
		{[]byte{0, 0, 0, 1, 1, 1, 99}, api.ErrArg},
	} {
		b := append(bytes.Clone(head), c.tail...)
		if w, e := Parse(b); e != c.want || (e != api.OK && !alike(w, api.Wish{})) {
			t.Errorf("%x: %+v, %d; want %d", b, w, e, c.want)
		}
		sameAsModel(t, b)
	}
}

// P11.3

// batches are lists of wishes that may be batches.
func batches() [][]api.Wish {
	b, g := basics(), goods()
	out := [][]api.Wish{nil, {}, {b[0], b[0]}, {b[1], b[0]}, {b[0], b[1], b[2]}, {b[0], b[1], b[2], b[3]}, {b[4], b[3], b[2], b[1]}, {b[5], b[5], b[5], b[5]}}
	for _, w := range b {
		out = append(out, []api.Wish{w})
	}
	for i := 0; i+4 < len(g); i += 5 {
		out = append(out, g[i:i+1+i%4])
	}
	return out
}

func TestBatch(t *testing.T) {
	for _, l := range batches() {
		b, e := Batch(l)
		if e != api.OK || !bytes.Equal(b, saidBatch(l)) {
			t.Errorf("%+v: %x, %d", l, b, e)
		}
		m, e := Unbatch(b)
		if e != api.OK || !slices.EqualFunc(l, m, alike) {
			t.Errorf("%+v: %+v, %d", l, m, e)
		}
	}
}

func TestBatchOfWhatMayNotBe(t *testing.T) {
	good := basics()
	for _, bad := range []api.Wish{{}, {Kind: 6}, {Kind: 1, Client: 31, Stamp: 1}, {Kind: 2, Client: 31, Stamp: 1, Group: 1, Data: make([]byte, 1<<16)}, {Kind: 5, Group: 1}} {
		for n := 1; n <= 4; n++ {
			for i := range n {
				l := slices.Clone(good[:n])
				l[i] = bad
				if b, e := Batch(l); e != api.ErrArg || len(b) != 0 {
					t.Errorf("%d of %d, %+v: %x, %d", i, n, bad, b, e)
				}
			}
		}
	}
	for _, n := range []int{5, 6, 8, 256, 260, 1 << 16} {
		for _, w := range []api.Wish{good[0], {}} { // too many is told ahead of what may not be
			l := slices.Repeat([]api.Wish{w}, n)
			if b, e := Batch(l); e != api.ErrLimit || len(b) != 0 {
				t.Errorf("%d of %+v: %x, %d", n, w, b, e)
			}
		}
	}
}

func TestUnbatchOfBeginnings(t *testing.T) {
	for _, l := range batches() {
		b := saidBatch(l)
		for i := range b {
			if m, e := Unbatch(b[:i]); e != api.ErrTrunc || len(m) != 0 {
				t.Errorf("%x: %+v, %d", b[:i], m, e)
			}
		}
		for _, more := range [][]byte{{0}, {1, 1}, {8}, {255}, str(said(basics()[0])), make([]byte, 300)} {
			if m, e := Unbatch(append(bytes.Clone(b), more...)); e != api.ErrSyntax || len(m) != 0 {
				t.Errorf("%x and %x: %+v, %d", b, more, m, e)
			}
		}
	}
}

func TestUnbatchErrors(t *testing.T) {
	join := func(l ...[]byte) []byte { return bytes.Join(l, nil) }
	good := str(said(basics()[0]))
	long := make([]byte, 257)
	for i, c := range []struct {
		b    []byte
		want api.Errno
	}{
		{nil, api.ErrTrunc}, {[]byte{}, api.ErrTrunc}, {[]byte{0}, api.OK}, {[]byte{1}, api.ErrTrunc}, {[]byte{1, 0}, api.ErrSyntax}, {[]byte{8}, api.ErrSyntax},
		{num(5), api.ErrLimit}, {num(256), api.ErrLimit}, {num(260), api.ErrLimit}, {num(1<<32 + 1), api.ErrLimit}, {num(api.MaxNumber), api.ErrLimit}, {num(1 << 53), api.ErrRange},
		{join(num(5), good, good, good, good, good), api.ErrLimit},
		{join(num(4), good, good, good, good), api.OK},
		{join(num(4), good, good, good), api.ErrTrunc},
		{join(num(3), good, good, good, good), api.ErrSyntax},
		{join(num(0), good), api.ErrSyntax},
		{join(num(1), num(257)), api.ErrLimit}, // though none of them is there
		{join(num(1), str(long)), api.ErrLimit},
		{join(num(2), good, num(1<<32+1)), api.ErrLimit},
		{join(num(1), num(256)), api.ErrTrunc},
		{join(num(1), num(256), long[:255]), api.ErrTrunc},
		{join(num(1), str(long[:256])), api.ErrSyntax}, // Parse's: bytes are left
		{join(num(1), str(nil)), api.ErrTrunc},         // Parse's of none
		{join(num(2), str(nil), good), api.ErrTrunc},
		{join(num(1), str([]byte{9}), []byte{0}), api.ErrSyntax},
		{join(num(1), str(said(api.Wish{}))), api.ErrArg},
		{join(num(1), str(said(api.Wish{})), []byte{0}), api.ErrArg},           // ahead of what is left
		{join(num(2), str(said(api.Wish{})), []byte{8}), api.ErrArg},           // ahead of the next text
		{join(num(2), []byte{8}, str(said(api.Wish{}))), api.ErrSyntax},        // in turn
		{join(num(2), good, str(said(api.Wish{Kind: 9}))), api.ErrArg},         // of the second one
		{join(num(2), good, str(append(said(basics()[1]), 0))), api.ErrSyntax}, // likewise
		{join(num(2), str(num(1<<53)), str([]byte{9})), api.ErrRange},
		{join(num(2), str([]byte{9}), str(num(1<<53))), api.ErrSyntax},
		{join(num(2), str(append(said(basics()[1])[:12], 1, 17)), num(257)), api.ErrLimit},
		{join(num(2), good, str(good)), api.ErrTrunc}, // how long it is was taken for its kind
	} {
		if l, e := Unbatch(c.b); e != c.want || (e != api.OK && len(l) != 0) {
			t.Errorf("%d: %x: %+v, %d; want %d", i, c.b, l, e, c.want)
		}
		batchSameAsModel(t, c.b)
	}
}

// P11.4

func TestDigest(t *testing.T) {
	book := ink.New()
	for i, w := range goods() {
		d, e := Digest(book, w)
		if e != api.OK || d != sha256.Sum256(said(w)) || book.Len() != i+1 || book.Asked() != i+1 {
			t.Fatalf("%+v: %x, %d; %d, %d", w, d, e, book.Len(), book.Asked())
		}
	}
	n := book.Len()
	if d, e := Digest(book, goods()[0]); e != api.OK || d != sha256.Sum256(said(goods()[0])) || book.Len() != n || book.Asked() != n+1 {
		t.Errorf("again: %x, %d", d, e)
	}
	if in, _ := book.Of(said(goods()[1])); in != sha256.Sum256(said(goods()[1])) || book.Len() != n {
		t.Error("another input was noted")
	}
}

func TestBatchDigest(t *testing.T) {
	book := ink.New()
	noted := map[string]bool{}
	for i, l := range batches() {
		noted[string(saidBatch(l))] = true
		d, e := BatchDigest(book, l)
		if e != api.OK || d != sha256.Sum256(saidBatch(l)) || book.Len() != len(noted) || book.Asked() != i+1 {
			t.Fatalf("%+v: %x, %d; %d, %d", l, d, e, book.Len(), book.Asked())
		}
	}
}

func TestDigestErrors(t *testing.T) {
	book := ink.New()
	good, bad := basics()[0], api.Wish{Kind: 9}
	for _, b := range []*ink.Book{nil, {}, book} {
		if d, e := Digest(b, bad); e != api.ErrArg || d != (api.Digest{}) {
			t.Errorf("%x, %d", d, e)
		}
		if d, e := BatchDigest(b, []api.Wish{good, bad}); e != api.ErrArg || d != (api.Digest{}) {
			t.Errorf("%x, %d", d, e)
		}
		if d, e := BatchDigest(b, slices.Repeat([]api.Wish{bad}, 5)); e != api.ErrLimit || d != (api.Digest{}) {
			t.Errorf("%x, %d", d, e)
		}
		if b == book {
			continue
		}
		if d, e := Digest(b, good); e != api.ErrNil || d != (api.Digest{}) {
			t.Errorf("%x, %d", d, e)
		}
		if d, e := BatchDigest(b, nil); e != api.ErrNil || d != (api.Digest{}) {
			t.Errorf("%x, %d", d, e)
		}
	}
	if book.Len() != 0 || book.Asked() != 0 {
		t.Error("beside an error something was noted")
	}
}

// P11.5

// roomy is a list's copy, with spare room behind it that holds x.
func roomy[T any](l []T, x T) []T {
	out := append(slices.Clone(l), slices.Repeat([]T{x}, 8)...)
	return out[:len(l)]
}

func kept[T comparable](t *testing.T, was, l []T, x T) {
	t.Helper()
	all := l[:len(was)+8]
	if !slices.Equal(all[:len(was)], was) || !slices.Equal(all[len(was):], slices.Repeat([]T{x}, 8)) {
		t.Errorf("%v has become %v", was, all)
	}
}

func TestOnlyRead(t *testing.T) {
	book := ink.New()
	for _, w := range basics() {
		was := plain(w)
		w.Data, w.Next = roomy(was.Data, 7), roomy(was.Next, 7)
		l := []api.Wish{w, w, {Kind: 9}}[:2]
		Check(w)
		Bytes(w)
		Digest(book, w)
		Batch(l)
		BatchDigest(book, l)
		Same(w, w)
		kept(t, was.Data, w.Data, 7)
		kept(t, was.Next, w.Next, 7)
		if !alike(l[0], was) || !alike(l[1], was) || !alike(l[:3][2], api.Wish{Kind: 9}) {
			t.Errorf("%+v", l[:3])
		}
		one, two := roomy(said(was), 7), roomy(saidBatch([]api.Wish{was, was}), 7)
		Parse(one)
		Unbatch(two)
		kept(t, said(was), one, 7)
		kept(t, saidBatch([]api.Wish{was, was}), two, 7)
	}
}

// What is handed in may be written over behind a call, and what is answered, too, all its room: nothing else changes.
func TestNewMemory(t *testing.T) {
	wipe := func(b []byte) {
		b = b[:cap(b)]
		for i := range b {
			b[i] = 0xEE
		}
	}
	for _, was := range basics() {
		w := plain(was)
		b, _ := Bytes(w)
		wipe(w.Data)
		if !bytes.Equal(b, said(was)) {
			t.Errorf("Bytes has kept Data of %+v", was)
		}
		w, _ = Parse(b)
		wipe(b)
		if !alike(w, was) {
			t.Errorf("Parse has kept the bytes of %+v", was)
		}
		w = plain(was)
		b, _ = Batch([]api.Wish{w, w})
		wipe(w.Data)
		if !bytes.Equal(b, saidBatch([]api.Wish{was, was})) {
			t.Errorf("Batch has kept Data of %+v", was)
		}
		l, _ := Unbatch(b)
		wipe(b)
		if !alike(l[0], was) || !alike(l[1], was) {
			t.Errorf("Unbatch has kept the bytes of %+v", was)
		}
		wipe(l[0].Data)
		for i := range l[0].Next {
			l[0].Next[i] = -1
		}
		_ = append(l[0].Next, -1)
		if !alike(l[1], was) {
			t.Errorf("two wishes of a batch share %+v", was)
		}
		b, _ = Bytes(was)
		c, _ := Bytes(was)
		wipe(b)
		if !bytes.Equal(c, said(was)) {
			t.Error("two answers share bytes")
		}
	}
	empty, _ := Batch(nil)
	wipe(empty)
	if b, e := Batch(nil); e != api.OK || !bytes.Equal(b, []byte{0}) {
		t.Errorf("%x, %d", b, e)
	}
}

// The book has a copy of what was digested: it is the same as it was when asked again.
func TestDigestKeepsNothing(t *testing.T) {
	book := ink.New()
	w := plain(basics()[1])
	d, _ := Digest(book, w)
	w.Data[0]++
	c, _ := Digest(book, w)
	w.Data[0]--
	if again, _ := Digest(book, w); again != d || c == d || book.Len() != 2 || book.Clash() {
		t.Errorf("%x, %x, %x; %d", d, c, again, book.Len())
	}
}

// P11.6

func TestOneWayOnly(t *testing.T) {
	r := rand.New(rand.NewSource(11))
	g := goods()
	got := map[api.Errno]int{}
	for range 200000 {
		b := spoiled(r, said(g[r.Intn(len(g))]))
		got[sameAsModel(t, b)]++
		w, e := Parse(b)
		if e != api.OK {
			continue
		}
		if c, e := Bytes(w); e != api.OK || !bytes.Equal(b, c) {
			t.Errorf("%x is written %x, %d", b, c, e)
		}
	}
	for _, e := range []api.Errno{api.OK, api.ErrArg, api.ErrTrunc, api.ErrSyntax, api.ErrLimit} {
		if got[e] < 100 {
			t.Errorf("%d was told %d times only", e, got[e])
		}
	}
}

func TestOneWayOnlyOfBatches(t *testing.T) {
	r := rand.New(rand.NewSource(12))
	all := batches()
	got := map[api.Errno]int{}
	for range 100000 {
		b := spoiled(r, saidBatch(all[r.Intn(len(all))]))
		got[batchSameAsModel(t, b)]++
		l, e := Unbatch(b)
		if e != api.OK {
			continue
		}
		if c, e := Batch(l); e != api.OK || !bytes.Equal(b, c) {
			t.Errorf("%x is written %x, %d", b, c, e)
		}
	}
	for _, e := range []api.Errno{api.OK, api.ErrArg, api.ErrTrunc, api.ErrSyntax, api.ErrLimit} {
		if got[e] < 100 {
			t.Errorf("%d was told %d times only", e, got[e])
		}
	}
}

func TestAnyBytes(t *testing.T) {
	r := rand.New(rand.NewSource(13))
	for range 50000 {
		b := make([]byte, r.Intn(60))
		for i := range b {
			b[i] = byte(r.Intn([]int{2, 6, 36, 256}[r.Intn(4)]))
		}
		sameAsModel(t, b)
		batchSameAsModel(t, b)
	}
	for _, n := range []int{1 << 10, 1 << 16, 1 << 20} {
		for _, x := range []byte{0, 1, 4, 7, 8, 255} {
			b := bytes.Repeat([]byte{x}, n)
			sameAsModel(t, b)
			batchSameAsModel(t, b)
		}
	}
}

func TestWritesFewBytes(t *testing.T) {
	for _, w := range append(goods(), varied()...) {
		b, e := Bytes(w)
		if len(b) >= 128 {
			t.Errorf("%+v: %d bytes, %d", w, len(b), e)
		}
	}
}

// P11.7

func TestDigestsTellWishesApart(t *testing.T) {
	book := ink.New()
	by := map[api.Digest]api.Wish{}
	for _, w := range append(goods(), varied()...) {
		d, e := Digest(book, w)
		if e != api.OK {
			continue
		}
		if v, ok := by[d]; ok && !Same(v, w) {
			t.Errorf("%+v and %+v have one digest", v, w)
		}
		by[d] = w
		if again, _ := Digest(book, plain(w)); again != d {
			t.Errorf("%+v has two digests", w)
		}
	}
	if len(by) != book.Len() || book.Clash() {
		t.Errorf("%d digests of %d inputs", len(by), book.Len())
	}
}

func TestDigestsTellBatchesApart(t *testing.T) {
	book := ink.New()
	b := basics()
	seen := map[api.Digest]bool{}
	var all func(l []api.Wish)
	all = func(l []api.Wish) {
		d, e := BatchDigest(book, l)
		if e != api.OK || seen[d] {
			t.Errorf("%+v: %x, %d", l, d, e)
		}
		seen[d] = true
		if len(l) == 4 {
			return
		}
		for _, w := range b {
			all(append(slices.Clone(l), w))
		}
	}
	all(nil)
	want := 1 + 6 + 36 + 216 + 1296
	if len(seen) != want || book.Len() != want || book.Clash() {
		t.Errorf("%d batches, %d inputs", len(seen), book.Len())
	}
	// a wish is no batch, also none of itself alone
	for _, w := range b {
		if d, _ := Digest(book, w); seen[d] {
			t.Errorf("%+v is a batch, too", w)
		}
	}
}

// The chapter's examples.

func TestExamples(t *testing.T) {
	read := api.Wish{Kind: api.WishRead, Client: 31, Stamp: 5, Group: 1, Epoch: 0, Block: 3}
	seal := api.Wish{Kind: api.WishSeal, Group: 2, Epoch: 1, Next: []int{1, 2, 3, 4}}
	for _, c := range []struct {
		w    api.Wish
		want string
	}{
		{read, "01 01, 01 1F, 01 05, 01 01, 00, 01 03, 00, 00, 00, 00"},
		{seal, "01 05, 00, 00, 01 02, 01 01, 00, 00, 00, 00, 01 04, 01 01, 01 02, 01 03, 01 04"},
	} {
		want := hexed(t, c.want)
		if b, e := Bytes(c.w); e != api.OK || !bytes.Equal(b, want) {
			t.Errorf("%s: %x, %d", c.want, b, e)
		}
		if w, e := Parse(want); e != api.OK || !Same(w, c.w) {
			t.Errorf("%s: %+v, %d", c.want, w, e)
		}
	}
	if b, e := Batch(nil); e != api.OK || !bytes.Equal(b, []byte{0}) {
		t.Errorf("%x, %d", b, e)
	}
	if l, e := Unbatch([]byte{0}); e != api.OK || len(l) != 0 {
		t.Errorf("%v, %d", l, e)
	}
}

// R2: calls stand side by side, each with a book of its own, and answer as alone.
func TestSideBySide(t *testing.T) {
	l := basics()[1:5]
	want := saidBatch(l)
	told := make([]string, 8)
	var all sync.WaitGroup
	for i := range told {
		all.Go(func() {
			book := ink.New()
			for range 200 {
				b, e := Batch(l)
				m, f := Unbatch(want)
				d, g := BatchDigest(book, l)
				if e != api.OK || f != api.OK || g != api.OK || !bytes.Equal(b, want) || !slices.EqualFunc(l, m, alike) || d != sha256.Sum256(want) {
					told[i] = fmt.Sprintf("%x, %d, %d, %d", b, e, f, g)
				}
			}
		})
	}
	all.Wait()
	for i, s := range told {
		if s != "" {
			t.Errorf("%d: %s", i, s)
		}
	}
}

func FuzzParse(f *testing.F) {
	for _, w := range basics() {
		f.Add(said(w))
		f.Add(saidBatch([]api.Wish{w, w}))
	}
	f.Fuzz(func(t *testing.T, b []byte) {
		sameAsModel(t, b)
		batchSameAsModel(t, b)
	})
}
