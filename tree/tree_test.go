package tree

import (
	"bytes"
	"crypto/sha256"
	"fmt"
	"math"
	"math/rand"
	"slices"
	"sync"
	"testing"

	"bastide/api"
	"bastide/ink"
)

// longest is how long a leaf may be.
const longest = 65535

// sizes are numbers of leaves: all small ones, and those at which a level is full, or another one begins.
func sizes() []int {
	var out []int
	for n := 1; n <= 21; n++ {
		out = append(out, n)
	}
	return append(out, 63, 64, 65, 66, 79, 80, 81, 255, 256, 257, 1021, 1023, 1024)
}

// noCounts are numbers of leaves that no tree has.
func noCounts() []int {
	return []int{math.MinInt, -1 << 32, -1024, -1, 0, 1025, 1026, 4096, 1<<32 + 1, 1<<32 + 5, math.MaxInt}
}

// noBooks are books that are none.
func noBooks() []*ink.Book {
	return []*ink.Book{nil, {}}
}

// noTrees are trees that are none.
func noTrees() []*Tree {
	return []*Tree{nil, {}}
}

// some are leaves, no two of which are alike, of many lengths.
func some(r *rand.Rand, many int) [][]byte {
	out := make([][]byte, many)
	for i := range out {
		out[i] = make([]byte, r.Intn(70))
		r.Read(out[i])
		out[i] = append(out[i], byte(i), byte(i>>8))
	}
	return out
}

// inputs are what a tree's digests are of, by its levels, by the chapter's words.
func inputs(leaves [][]byte) [][]string {
	var low []string
	for _, l := range leaves {
		low = append(low, "\x00"+string(l))
	}
	out := [][]string{low}
	for len(low) > 1 {
		var up []string
		for i, in := range low {
			if i%4 == 0 {
				up = append(up, "\x01")
			}
			d := sha256.Sum256([]byte(in))
			up[i/4] += string(d[:])
		}
		out = append(out, up)
		low = up
	}
	return out
}

// model are a tree's digests, by its levels.
func model(leaves [][]byte) [][]api.Digest {
	var out [][]api.Digest
	for _, level := range inputs(leaves) {
		var digests []api.Digest
		for _, in := range level {
			digests = append(digests, sha256.Sum256([]byte(in)))
		}
		out = append(out, digests)
	}
	return out
}

func top(levels [][]api.Digest) api.Digest {
	return levels[len(levels)-1][0]
}

// noted fails unless a book has just these inputs.
func noted(t *testing.T, b *ink.Book, levels ...[]string) {
	t.Helper()
	unlike := map[string]bool{}
	for _, in := range slices.Concat(levels...) {
		unlike[in] = true
	}
	if b.Len() != len(unlike) {
		t.Fatalf("%d inputs are noted, not %d", b.Len(), len(unlike))
	}
	for in := range unlike {
		b.Of([]byte(in))
	}
	if b.Len() != len(unlike) {
		t.Errorf("%d inputs were not noted", b.Len()-len(unlike))
	}
}

// made is a tree of leaves, set in order.
func made(t *testing.T, b *ink.Book, leaves [][]byte) *Tree {
	t.Helper()
	x, e := New(b, len(leaves))
	if e != api.OK {
		t.Fatalf("New of %d: %d", len(leaves), e)
	}
	for i, l := range leaves {
		if e := x.Set(i, l); e != api.OK {
			t.Fatalf("Set of %d of %d: %d", i, len(leaves), e)
		}
	}
	return x
}

// levels are all of a tree's.
func levels(t *testing.T, x *Tree) [][]api.Digest {
	t.Helper()
	var out [][]api.Digest
	for n := range x.Depth() {
		l, e := x.Level(n)
		if e != api.OK {
			t.Fatalf("Level of %d of %d: %d", n, x.Depth(), e)
		}
		out = append(out, l)
	}
	return out
}

// is fails unless a tree's digests are those of its leaves.
func is(t *testing.T, x *Tree, leaves [][]byte) {
	t.Helper()
	want := model(leaves)
	if x.Leaves() != len(leaves) || x.Depth() != len(want) {
		t.Fatalf("of %d leaves: %d leaves, %d levels, not %d", len(leaves), x.Leaves(), x.Depth(), len(want))
	}
	for n, l := range levels(t, x) {
		if !slices.Equal(l, want[n]) {
			t.Fatalf("of %d leaves: the level %d is another one", len(leaves), n)
		}
	}
	if r, e := x.Root(); r != top(want) || e != api.OK {
		t.Fatalf("of %d leaves: the root is another one: %x, %d", len(leaves), r, e)
	}
}

// P9.1

func TestLeaf(t *testing.T) {
	for _, n := range []int{0, 1, 2, 54, 55, 62, 63, 64, 1000, 65534, longest} {
		b := ink.New()
		leaf := bytes.Repeat([]byte{7}, n)
		d, e := Leaf(b, leaf)
		if d != sha256.Sum256(append([]byte{0}, leaf...)) || e != api.OK {
			t.Errorf("%d: %x, %d", n, d, e)
		}
		noted(t, b, []string{"\x00" + string(leaf)})
	}
	b := ink.New()
	if d, e := Leaf(b, nil); d != sha256.Sum256([]byte{0}) || e != api.OK || b.Len() != 1 {
		t.Errorf("%x, %d", d, e)
	}
}

func TestLeafRefuses(t *testing.T) {
	b := ink.New()
	for _, n := range []int{longest + 1, longest + 2, 1 << 20} {
		for _, k := range append(noBooks(), b) {
			if d, e := Leaf(k, make([]byte, n)); d != (api.Digest{}) || e != api.ErrLimit {
				t.Errorf("%d: %x, %d", n, d, e)
			}
		}
	}
	for _, k := range noBooks() {
		for _, n := range []int{0, 1, longest} {
			if d, e := Leaf(k, make([]byte, n)); d != (api.Digest{}) || e != api.ErrNil {
				t.Errorf("%d: %x, %d", n, d, e)
			}
		}
	}
	if b.Len() != 0 || b.Asked() != 0 {
		t.Errorf("%d, %d", b.Len(), b.Asked())
	}
}

func TestUp(t *testing.T) {
	children := []api.Digest{{1}, {}, {31: 2}, {9, 8, 7}}
	for n := 1; n <= 4; n++ {
		b := ink.New()
		in := "\x01"
		for _, d := range children[:n] {
			in += string(d[:])
		}
		d, e := Up(b, children[:n])
		if d != sha256.Sum256([]byte(in)) || e != api.OK {
			t.Errorf("%d: %x, %d", n, d, e)
		}
		noted(t, b, []string{in})
	}
}

func TestUpRefuses(t *testing.T) {
	b := ink.New()
	for _, n := range []int{0, 5, 6, 8, 1024} {
		for _, k := range append(noBooks(), b) {
			if d, e := Up(k, make([]api.Digest, n)); d != (api.Digest{}) || e != api.ErrArg {
				t.Errorf("%d: %x, %d", n, d, e)
			}
		}
	}
	if d, e := Up(b, nil); d != (api.Digest{}) || e != api.ErrArg {
		t.Errorf("%x, %d", d, e)
	}
	for _, k := range noBooks() {
		for n := 1; n <= 4; n++ {
			if d, e := Up(k, make([]api.Digest, n)); d != (api.Digest{}) || e != api.ErrNil {
				t.Errorf("%d: %x, %d", n, d, e)
			}
		}
	}
	if b.Len() != 0 || b.Asked() != 0 {
		t.Errorf("%d, %d", b.Len(), b.Asked())
	}
}

func TestOf(t *testing.T) {
	r := rand.New(rand.NewSource(1))
	for _, n := range sizes() {
		b := ink.New()
		leaves := some(r, n)
		if d, e := Of(b, leaves); d != top(model(leaves)) || e != api.OK {
			t.Errorf("%d: %x, %d", n, d, e)
		}
		noted(t, b, inputs(leaves)...)
	}
}

func TestOfLikeAndLongLeaves(t *testing.T) {
	long := make([]byte, longest)
	for _, leaves := range [][][]byte{
		{nil}, {{}, nil, {}, nil, {}}, {{0}, {0}, {0}, {0}, {0}, {0}, {0}, {0}}, {long}, {{1}, long, {2}, {3}, long},
	} {
		b := ink.New()
		if d, e := Of(b, leaves); d != top(model(leaves)) || e != api.OK {
			t.Errorf("%d: %x, %d", len(leaves), d, e)
		}
		noted(t, b, inputs(leaves)...)
	}
}

func TestOfRefuses(t *testing.T) {
	b := ink.New()
	long := make([]byte, longest+1)
	books := append(noBooks(), b)
	for _, n := range []int{0, 1025, 1026, 5000} {
		leaves := make([][]byte, n)
		for i := range leaves {
			leaves[i] = long
		}
		for _, k := range books {
			if d, e := Of(k, leaves); d != (api.Digest{}) || e != api.ErrArg {
				t.Errorf("%d: %x, %d", n, d, e)
			}
		}
	}
	for _, n := range []int{1, 5, 1024} {
		for _, at := range []int{0, n / 2, n - 1} {
			leaves := make([][]byte, n)
			leaves[at] = long
			for _, k := range books {
				if d, e := Of(k, leaves); d != (api.Digest{}) || e != api.ErrLimit {
					t.Errorf("%d of %d: %x, %d", at, n, d, e)
				}
			}
		}
		for _, k := range noBooks() {
			if d, e := Of(k, make([][]byte, n)); d != (api.Digest{}) || e != api.ErrNil {
				t.Errorf("%d: %x, %d", n, d, e)
			}
		}
	}
	if d, e := Of(b, nil); d != (api.Digest{}) || e != api.ErrArg {
		t.Errorf("%x, %d", d, e)
	}
	if b.Len() != 0 || b.Asked() != 0 {
		t.Errorf("%d, %d", b.Len(), b.Asked())
	}
}

// P9.2

func TestNew(t *testing.T) {
	for _, n := range sizes() {
		b := ink.New()
		x, e := New(b, n)
		if e != api.OK {
			t.Fatalf("%d: %d", n, e)
		}
		noted(t, b, inputs(make([][]byte, n))...)
		is(t, x, make([][]byte, n))
	}
}

func TestNewRefuses(t *testing.T) {
	b := ink.New()
	for _, n := range noCounts() {
		for _, k := range append(noBooks(), b) {
			if x, e := New(k, n); x != nil || e != api.ErrArg {
				t.Errorf("%d: %v, %d", n, x, e)
			}
		}
	}
	for _, k := range noBooks() {
		for _, n := range []int{1, 2, 5, 1024} {
			if x, e := New(k, n); x != nil || e != api.ErrNil {
				t.Errorf("%d: %v, %d", n, x, e)
			}
		}
	}
	if b.Len() != 0 || b.Asked() != 0 {
		t.Errorf("%d, %d", b.Len(), b.Asked())
	}
}

func TestNoTree(t *testing.T) {
	for _, x := range noTrees() {
		for _, i := range []int{math.MinInt, -1, 0, 1, math.MaxInt} {
			if e := x.Set(i, nil); e != api.ErrNil {
				t.Errorf("Set of %d: %d", i, e)
			}
			if e := x.Set(i, make([]byte, longest+1)); e != api.ErrNil {
				t.Errorf("Set of %d: %d", i, e)
			}
			if l, e := x.Level(i); len(l) != 0 || e != api.ErrNil {
				t.Errorf("Level of %d: %v, %d", i, l, e)
			}
		}
		if d, e := x.Root(); d != (api.Digest{}) || e != api.ErrNil {
			t.Errorf("%x, %d", d, e)
		}
		if x.Depth() != 0 || x.Leaves() != 0 {
			t.Errorf("%d, %d", x.Depth(), x.Leaves())
		}
	}
}

// P9.3

func TestSet(t *testing.T) {
	r := rand.New(rand.NewSource(2))
	for _, n := range sizes() {
		leaves := some(r, n)
		x := made(t, ink.New(), leaves)
		is(t, x, leaves)
		for range 20 {
			i := r.Intn(n)
			leaves[i] = some(r, 1)[0]
			if e := x.Set(i, leaves[i]); e != api.OK {
				t.Fatalf("%d of %d: %d", i, n, e)
			}
			is(t, x, leaves)
		}
		leaves[n-1] = make([]byte, longest)
		leaves[0] = nil
		if e, f := x.Set(n-1, leaves[n-1]), x.Set(0, leaves[0]); e != api.OK || f != api.OK {
			t.Fatalf("%d: %d, %d", n, e, f)
		}
		is(t, x, leaves)
	}
}

// Each Set notes its way to the root, and nothing beside it.
func TestSetNotes(t *testing.T) {
	for _, n := range []int{1, 2, 4, 5, 16, 17, 66, 1024} {
		b := ink.New()
		leaves := make([][]byte, n)
		x, _ := New(b, n)
		all := inputs(leaves)
		for k, i := range []int{0, n / 2, n - 1, n / 2, n - 1} {
			leaves[i] = []byte{byte(k), 7}
			asked := b.Asked()
			if e := x.Set(i, leaves[i]); e != api.OK {
				t.Fatalf("%d of %d: %d", i, n, e)
			}
			if b.Asked()-asked != x.Depth() {
				t.Errorf("%d of %d: the book was asked %d times", i, n, b.Asked()-asked)
			}
			all = append(all, slices.Concat(inputs(leaves)...))
			noted(t, b, all...)
		}
	}
}

func TestSetRefuses(t *testing.T) {
	long := make([]byte, longest+1)
	for _, n := range []int{1, 4, 5, 6, 1024} {
		b := ink.New()
		leaves := some(rand.New(rand.NewSource(3)), n)
		x := made(t, b, leaves)
		many, asked := b.Len(), b.Asked()
		for _, i := range []int{math.MinInt, -1 << 32, -n, -1, n, n + 1, n + 4, 1 << 32, math.MaxInt} {
			if e := x.Set(i, []byte{1}); e != api.ErrRange {
				t.Errorf("%d of %d: %d", i, n, e)
			}
			if e := x.Set(i, long); e != api.ErrRange {
				t.Errorf("%d of %d: %d", i, n, e)
			}
		}
		for _, i := range []int{0, n / 2, n - 1} {
			if e := x.Set(i, long); e != api.ErrLimit {
				t.Errorf("%d of %d: %d", i, n, e)
			}
		}
		if b.Len() != many || b.Asked() != asked {
			t.Errorf("%d: more is noted", n)
		}
		is(t, x, leaves)
	}
}

func TestLevelRefuses(t *testing.T) {
	for _, n := range []int{1, 4, 5, 17, 1024} {
		x, _ := New(ink.New(), n)
		for _, l := range []int{math.MinInt, -x.Depth(), -1, x.Depth(), x.Depth() + 1, 1 << 32, math.MaxInt} {
			if got, e := x.Level(l); len(got) != 0 || e != api.ErrRange {
				t.Errorf("%d of %d: %v, %d", l, n, got, e)
			}
		}
	}
}

func TestDepth(t *testing.T) {
	b := ink.New()
	for _, c := range []struct{ leaves, depth int }{
		{1, 1}, {2, 2}, {4, 2}, {5, 3}, {16, 3}, {17, 4}, {64, 4}, {65, 5}, {256, 5}, {257, 6}, {1024, 6},
	} {
		x, _ := New(b, c.leaves)
		if x.Depth() != c.depth || x.Leaves() != c.leaves {
			t.Errorf("%d: %d, %d", c.leaves, x.Depth(), x.Leaves())
		}
	}
}

// Trees of one book are trees of their own; who asks changes nothing, and asks no book.
func TestTreesApart(t *testing.T) {
	b := ink.New()
	r := rand.New(rand.NewSource(4))
	first, second := some(r, 9), some(r, 9)
	x, y := made(t, b, first), made(t, b, second)
	many, asked := b.Len(), b.Asked()
	for range 3 {
		is(t, x, first)
		is(t, y, second)
	}
	if b.Len() != many || b.Asked() != asked {
		t.Errorf("%d, %d", b.Len()-many, b.Asked()-asked)
	}
	first[3] = []byte("other")
	x.Set(3, first[3])
	is(t, x, first)
	is(t, y, second)
}

// P9.4

// spare is a copy with room behind it that holds something.
func spare[T any](in []T, fill T) []T {
	out := append(slices.Clone(in), fill, fill, fill)
	return out[:len(in):len(out)]
}

// spared fails unless a list and its spare room are as they were.
func spared[T comparable](t *testing.T, got, was []T, fill T) {
	t.Helper()
	if !slices.Equal(got, was) || !slices.Equal(got[len(got):cap(got)], []T{fill, fill, fill}) {
		t.Errorf("what was handed in was changed: %v", got[:cap(got)])
	}
}

func TestOnlyRead(t *testing.T) {
	b := ink.New()
	leaf := []byte{1, 2, 3}
	one := spare(leaf, 99)
	x, _ := New(b, 6)
	if d, e := Leaf(b, one); d != sha256.Sum256([]byte{0, 1, 2, 3}) || e != api.OK {
		t.Errorf("%x, %d", d, e)
	}
	if e := x.Set(4, one); e != api.OK {
		t.Errorf("%d", e)
	}
	spared(t, one, leaf, 99)
	is(t, x, [][]byte{nil, nil, nil, nil, leaf, nil})
	for n := 1; n <= 4; n++ {
		children := make([]api.Digest, n)
		few := spare(children, api.Digest{8})
		d, e := Up(b, few)
		if d != sha256.Sum256(append([]byte{1}, make([]byte, 32*n)...)) || e != api.OK {
			t.Errorf("%x, %d", d, e)
		}
		spared(t, few, children, api.Digest{8})
	}
	for n := 1; n <= 6; n++ {
		leaves := make([][]byte, n)
		for i := range leaves {
			leaves[i] = spare(leaf, 99)
		}
		all := spare(leaves, []byte{8})
		plain := slices.Repeat([][]byte{leaf}, n)
		if d, e := Of(b, all); d != top(model(plain)) || e != api.OK {
			t.Errorf("%d: %x, %d", n, d, e)
		}
		for i, l := range all {
			spared(t, l, leaf, 99)
			if &l[0] != &leaves[i][0] {
				t.Errorf("%d: another leaf stands at %d", n, i)
			}
		}
		for _, l := range all[n:cap(all)] {
			if !slices.Equal(l, []byte{8}) {
				t.Errorf("%d: the spare room was changed", n)
			}
		}
	}
}

// What was handed in may change behind the call: nothing of it is kept.
func TestNotKept(t *testing.T) {
	b := ink.New()
	leaves := some(rand.New(rand.NewSource(5)), 6)
	want := model(leaves)
	x := made(t, b, leaves)
	Of(b, leaves)
	Leaf(b, leaves[0])
	few := slices.Clone(want[0][:4])
	Up(b, few)
	clear(few)
	for _, l := range leaves {
		clear(l)
	}
	for n, l := range levels(t, x) {
		if !slices.Equal(l, want[n]) {
			t.Errorf("the level %d is another one", n)
		}
	}
	if e := x.Set(0, nil); e != api.OK {
		t.Fatal(e)
	}
	after := levels(t, x)
	if !slices.Equal(after[0][1:], want[0][1:]) || after[1][1] != want[1][1] {
		t.Error("other digests have changed")
	}
}

func TestNewMemory(t *testing.T) {
	leaves := some(rand.New(rand.NewSource(6)), 66)
	x := made(t, ink.New(), leaves)
	for n := range x.Depth() {
		one, _ := x.Level(n)
		two, _ := x.Level(n)
		clear(one[:cap(one)])
		if !slices.Equal(two, model(leaves)[n]) {
			t.Errorf("two answers of the level %d share memory", n)
		}
	}
	is(t, x, leaves)
	old, _ := x.Level(0)
	was := slices.Clone(old)
	x.Set(7, []byte("other"))
	if !slices.Equal(old, was) {
		t.Error("an answer changed by Set")
	}
}

// P9.5

func TestAnyOrder(t *testing.T) {
	r := rand.New(rand.NewSource(7))
	for _, n := range []int{1, 2, 3, 4, 5, 6, 16, 17, 23, 65, 300} {
		b := ink.New()
		leaves := some(r, n)
		root, e := Of(b, leaves)
		if e != api.OK {
			t.Fatal(e)
		}
		for range 5 {
			x, _ := New(b, n)
			for range r.Intn(2 * n) {
				x.Set(r.Intn(n), some(r, 1)[0])
			}
			for _, i := range r.Perm(n) {
				x.Set(i, leaves[i])
			}
			if got, e := x.Root(); got != root || e != api.OK {
				t.Errorf("%d: %x, %d", n, got, e)
			}
		}
	}
}

// A leaf that has its bytes again has its digest again: an empty one, too.
func TestBackAgain(t *testing.T) {
	b := ink.New()
	for _, n := range []int{1, 5, 17} {
		x, _ := New(b, n)
		for i := range n {
			x.Set(i, []byte{9})
			x.Set(i, nil)
		}
		is(t, x, make([][]byte, n))
	}
}

// P9.6

// likely are leaves that a careless digest takes for one another.
func likely() [][][]byte {
	low := model([][]byte{{1}, {2}, {3}, {4}})[0]
	var children []byte
	for _, d := range low {
		children = append(children, d[:]...)
	}
	node := append([]byte{1}, children...)
	return [][][]byte{
		{nil, nil, nil, nil, nil}, {{0}, nil, nil, nil, nil}, {nil, {0}, nil, nil, nil}, {nil, nil, nil, nil, {0}}, {{0, 0}, nil, nil, nil, nil},
		{{1}, {2}, {3}, {4}, {5}}, {{2}, {1}, {3}, {4}, {5}}, {{1}, {2}, {3}, {5}, {4}}, {{5}, {1}, {2}, {3}, {4}}, {{5}, {2}, {3}, {4}, {1}},
		{{1, 2}, nil, {3}, {4}, {5}}, {nil, {1, 2}, {3}, {4}, {5}}, {{1}, {2}, {3}, {4}, {1}}, {{1}, {2}, {3}, {4}, {0, 5}}, {{1}, {2}, {3}, {4}, {5, 0}},
		{children, nil, nil, nil, nil}, {node, nil, nil, nil, nil}, {nil, nil, nil, nil, children}, {nil, nil, nil, nil, node}, {node[:33], nil, nil, nil, nil},
	}
}

func TestUnlikeLeaves(t *testing.T) {
	b := ink.New()
	lists := likely()
	for range 200 {
		r := rand.New(rand.NewSource(int64(len(lists))))
		lists = append(lists, some(r, 5))
	}
	roots := map[api.Digest]int{}
	for i, leaves := range lists {
		root, e := made(t, b, leaves).Root()
		if j, ok := roots[root]; ok || e != api.OK {
			t.Errorf("%d has the root of %d: %d", i, j, e)
		}
		roots[root] = i
		if again, _ := made(t, b, leaves).Root(); again != root {
			t.Errorf("%d has another root", i)
		}
	}
	if b.Clash() {
		t.Error("a clash")
	}
}

// Each leaf counts, wherever it stands.
func TestEachLeafCounts(t *testing.T) {
	for _, n := range []int{1, 4, 5, 17, 66, 257, 1024} {
		b := ink.New()
		x, _ := New(b, n)
		root, _ := x.Root()
		roots := map[api.Digest]bool{root: true}
		for i := range n {
			x.Set(i, []byte{7})
			one, _ := x.Root()
			if roots[one] {
				t.Fatalf("%d of %d does not count", i, n)
			}
			roots[one] = true
			x.Set(i, nil)
		}
		if back, _ := x.Root(); back != root {
			t.Errorf("%d: %x", n, back)
		}
	}
}

// P9.7

func TestOneNodeALevel(t *testing.T) {
	r := rand.New(rand.NewSource(8))
	for _, n := range []int{1, 2, 4, 5, 16, 17, 66, 257, 1024} {
		x := made(t, ink.New(), some(r, n))
		for k, i := range []int{0, n / 3, n / 2, n - 1} {
			was := levels(t, x)
			x.Set(i, []byte{byte(k), 200, byte(n), byte(n >> 8)})
			at := i
			for l, now := range levels(t, x) {
				for j, d := range now {
					if (d != was[l][j]) != (j == at) {
						t.Fatalf("Set of %d of %d, level %d, node %d: changed: %v", i, n, l, j, d != was[l][j])
					}
				}
				at /= 4
			}
		}
	}
}

// The chapter's examples.

func TestExamples(t *testing.T) {
	b := ink.New()
	one, e := New(b, 1)
	if e != api.OK || one.Depth() != 1 {
		t.Fatalf("%d, %d", e, one.Depth())
	}
	if r, e := one.Root(); r != sha256.Sum256([]byte{0}) || e != api.OK {
		t.Errorf("%x, %d", r, e)
	}
	five, _ := New(b, 5)
	low := sha256.Sum256([]byte{0})
	four := append([]byte{1}, bytes.Repeat(low[:], 4)...)
	want := []api.Digest{sha256.Sum256(four), sha256.Sum256(append([]byte{1}, low[:]...))}
	if l, e := five.Level(1); five.Depth() != 3 || !slices.Equal(l, want) || e != api.OK {
		t.Errorf("%d, %x, %d", five.Depth(), l, e)
	}
	_, first := New(b, 0)
	_, second := New(b, 1025)
	_, last := five.Level(3)
	if got := []api.Errno{first, second, five.Set(5, []byte("a")), last}; !slices.Equal(got, []api.Errno{api.ErrArg, api.ErrArg, api.ErrRange, api.ErrRange}) {
		t.Errorf("%d", got)
	}
}

// R1, R2: trees side by side, and one that many ask.
func TestSideBySide(t *testing.T) {
	r := rand.New(rand.NewSource(9))
	leaves := some(r, 40)
	shared := made(t, ink.New(), leaves)
	want := model(leaves)
	var wait sync.WaitGroup
	errs := make([]error, 8)
	for g := range errs {
		wait.Go(func() {
			own, _ := New(ink.New(), len(leaves))
			for i, l := range leaves {
				own.Set(i, l)
			}
			for _, x := range []*Tree{shared, own} {
				root, _ := x.Root()
				low, _ := x.Level(0)
				if root != top(want) || !slices.Equal(low, want[0]) {
					errs[g] = fmt.Errorf("%d: %x", g, root)
				}
			}
		})
	}
	wait.Wait()
	for _, e := range errs {
		if e != nil {
			t.Error(e)
		}
	}
}
