package atlas

import (
	"bytes"
	"crypto/sha256"
	"fmt"
	"math"
	"math/rand"
	"slices"
	"testing"

	"bastide/api"
	"bastide/ink"
)

// nums are numbers' bytes, text a text's, by chapter 1's words.
func nums(l ...int) []byte {
	var out []byte
	for _, n := range l {
		var b []byte
		for ; n > 0; n >>= 8 {
			b = append([]byte{byte(n)}, b...)
		}
		out = append(append(out, byte(len(b))), b...)
	}
	return out
}

func text(b []byte) []byte {
	return append(nums(len(b)), b...)
}

// told is a client's leaf.
func told(stamp int, err api.Errno, epoch int, nodes ...int) []byte {
	return append(nums(stamp, int(err), epoch, len(nodes)), nums(nodes...)...)
}

// from is so many nodes from one on.
func from(first, many int) []int {
	var l []int
	for i := range many {
		l = append(l, first+i)
	}
	return l
}

func crewOf(nodes ...int) api.Crew {
	return api.Crew{Faults: (len(nodes) - 1) / 3, Nodes: nodes}
}

func two() []api.Crew {
	return []api.Crew{crewOf(5, 6, 7, 8), crewOf(9, 10, 11, 12)}
}

// leavesOf are the leaves of an atlas of the example's two chunks to which nothing was done, but for some.
func leavesOf(others map[int][]byte) [][]byte {
	l := [][]byte{nums(1, 1, 5, 6, 7, 8), nums(1, 1, 9, 10, 11, 12), told(0, 0, 0), told(0, 0, 0), told(0, 0, 0), told(0, 0, 0)}
	for i, leaf := range others {
		l[i] = leaf
	}
	return l
}

func bytesOf(leaves [][]byte) []byte {
	var b []byte
	for _, l := range leaves {
		b = append(b, text(l)...)
	}
	return b
}

// rootOf is the root of six leaves, by chapter 9's words.
func rootOf(leaves [][]byte) api.Digest {
	up := [2][]byte{{1}, {1}}
	for i, l := range leaves {
		d := sha256.Sum256(append([]byte{0}, l...))
		up[i/4] = append(up[i/4], d[:]...)
	}
	a, b := sha256.Sum256(up[0]), sha256.Sum256(up[1])
	return sha256.Sum256(slices.Concat([]byte{1}, a[:], b[:]))
}

func query(client, stamp, chunk int) api.Wish {
	return api.Wish{Kind: api.WishQuery, Client: client, Stamp: stamp, Block: chunk}
}

func replace(client, stamp, chunk, old, next int) api.Wish {
	return api.Wish{Kind: api.WishReplace, Client: client, Stamp: stamp, Block: chunk, Old: old, New: next}
}

// alike tells whether answers are the same.
func alike(a, b api.Answer) bool {
	return a.Err == b.Err && bytes.Equal(a.Data, b.Data) && a.Epoch == b.Epoch && slices.Equal(a.Nodes, b.Nodes)
}

func alikeCrews(a, b []api.Crew) bool {
	return slices.EqualFunc(a, b, func(x, y api.Crew) bool { return x.Faults == y.Faults && slices.Equal(x.Nodes, y.Nodes) })
}

func made(t *testing.T, crews ...api.Crew) *Atlas {
	t.Helper()
	a, e := New(ink.New(), crews)
	if e != api.OK || a == nil {
		t.Fatalf("New(%v): %d", crews, e)
	}
	return a
}

func opened(t *testing.T, leaves [][]byte) *Atlas {
	t.Helper()
	a, e := Open(ink.New(), leaves)
	if e != api.OK || a == nil {
		t.Fatalf("Open(%x): %d", leaves, e)
	}
	return a
}

func does(t *testing.T, a *Atlas, w api.Wish, want api.Answer) {
	t.Helper()
	if x, e := a.Do(w); e != api.OK || !alike(x, want) {
		t.Errorf("Do(%+v): %+v, %d, not %+v", w, x, e, want)
	}
}

// seen is all that an atlas tells, but for what it answers to wishes.
func seen(a *Atlas) string {
	b, e := a.Bytes()
	d, f := a.Root()
	return fmt.Sprint(b, e, d, f, a.Leaves(), a.Chunks(), a.Crews(1), a.Crews(2))
}

// has looks at an atlas by its leaves: they, its bytes and its root.
func has(t *testing.T, what string, a *Atlas, want [][]byte) {
	t.Helper()
	if l := a.Leaves(); !slices.EqualFunc(l, want, bytes.Equal) {
		t.Errorf("%s: Leaves: %x, not %x", what, l, want)
	}
	if b, e := a.Bytes(); e != api.OK || !bytes.Equal(b, bytesOf(want)) {
		t.Errorf("%s: Bytes: %x, %d", what, b, e)
	}
	if d, e := a.Root(); e != api.OK || d != rootOf(want) {
		t.Errorf("%s: Root: %x, %d", what, d, e)
	}
}

func hasCrews(t *testing.T, what string, a *Atlas, chunk int, want ...api.Crew) {
	t.Helper()
	if l := a.Crews(chunk); !alikeCrews(l, want) {
		t.Errorf("%s: Crews(%d): %v, not %v", what, chunk, l, want)
	}
}

// filled is an atlas of two chunks, of three epochs and two; 31 asked at stamp 4, 32 was refused at 9, 34 replaced at the last stamp of all.
func filledLeaves() [][]byte {
	return leavesOf(map[int][]byte{
		0: nums(3, 1, 5, 6, 7, 8, 6, 20, 20, 13), 1: nums(2, 1, 9, 10, 11, 12, 12, 28),
		2: told(4, api.OK, 1, 5, 7, 8, 20), 3: told(9, api.ErrMap, 0), 5: told(api.MaxNumber, api.OK, 2),
	})
}

func filled(t *testing.T) *Atlas {
	t.Helper()
	return opened(t, filledLeaves())
}

// nones are atlases that none of New, Load, Open made.
func nones() map[string]*Atlas {
	return map[string]*Atlas{"nil": nil, "one that no call made": {}, "a new zero one": new(Atlas)}
}

// noBooks are books that ink.New did not make.
func noBooks() []*ink.Book {
	return []*ink.Book{nil, {}}
}

// firsts are crews that may be those of first epochs.
func firsts() [][]api.Crew {
	return [][]api.Crew{
		{crewOf(2)}, {crewOf(28)}, {crewOf(2), crewOf(3)}, {crewOf(28), crewOf(2)},
		two()[:1], two()[1:], two(), {two()[1], two()[0]}, {crewOf(25, 26, 27, 28)}, {crewOf(5, 7, 9, 11), crewOf(6, 8, 10, 12)}, {crewOf(5, 6, 27, 28), crewOf(7, 8, 25, 26)},
		{crewOf(from(8, 7)...)}, {crewOf(from(22, 7)...)}, {crewOf(from(8, 7)...), crewOf(from(15, 7)...)}, {crewOf(8, 10, 12, 14, 16, 18, 20), crewOf(9, 11, 13, 15, 17, 19, 21)},
	}
}

// others are crews that may not.
func others() [][]api.Crew {
	five := crewOf(5, 6, 7, 8)
	nine := crewOf(9, 10, 11, 12)
	l := [][]api.Crew{
		nil, {}, {five, nine, crewOf(13, 14, 15, 16)}, {{}}, {five, {}}, {{}, five}, make([]api.Crew, 2), make([]api.Crew, 1000),
		{crewOf(1)}, {crewOf(2), crewOf(1)}, {crewOf(1), crewOf(2)}, {crewOf(2), crewOf(2)}, {crewOf(29)}, {crewOf(0)}, {crewOf(-1)},
		{crewOf(1, 2, 3, 4)}, {crewOf(4, 5, 6, 7)}, {crewOf(1, 6, 7, 8)}, {five, crewOf(4, 9, 10, 11)}, {crewOf(0, 5, 6, 7)}, {crewOf(26, 27, 28, 29)},
		{five, five}, {five, crewOf(8, 9, 10, 11)}, {five, crewOf(6, 13, 14, 15)}, {crewOf(9, 13, 14, 15), nine}, {crewOf(5, 6, 7, 28), crewOf(8, 9, 10, 28)},
		{crewOf(from(7, 7)...)}, {crewOf(from(1, 7)...)}, {crewOf(from(23, 7)...)}, {crewOf(from(8, 7)...), crewOf(from(14, 7)...)}, {crewOf(from(8, 7)...), crewOf(7, 15, 16, 17, 18, 19, 20)},
		{five, crewOf(20)}, {crewOf(20), five}, {five, crewOf(from(9, 7)...)}, {crewOf(from(9, 7)...), crewOf(20, 21, 22, 23)}, {crewOf(from(8, 7)...), crewOf(20)},
		{{Faults: 0, Nodes: five.Nodes}}, {{Faults: 2, Nodes: five.Nodes}}, {{Faults: -1, Nodes: []int{9}}}, {{Faults: 1, Nodes: []int{9}}}, {{Faults: 1<<32 + 1, Nodes: five.Nodes}}, {five, {Faults: 0, Nodes: nine.Nodes}}, {five, {Faults: 2, Nodes: nine.Nodes}},
		{{Faults: 3, Nodes: from(11, 10)}}, {{Faults: 1, Nodes: from(5, 5)}}, {{Faults: 1, Nodes: from(5, 3)}}, {{Faults: 1}}, {{Faults: math.MaxInt}}, {{Faults: math.MinInt}},
	}
	for _, nodes := range [][]int{{5, 6, 8, 7}, {8, 7, 6, 5}, {5, 6, 6, 7}, {5, 5, 6, 7}, {5, 6, 7, 7}, {5, 6, 7, 1<<32 + 8}} {
		l = append(l, []api.Crew{crewOf(nodes...)}, []api.Crew{nine, crewOf(nodes...)})
	}
	return l
}

// P17.1

func TestNew(t *testing.T) {
	for _, crews := range firsts() {
		book := ink.New()
		a, e := New(book, crews)
		if e != api.OK {
			t.Fatalf("New(%v): %d", crews, e)
		}
		want := leavesOf(map[int][]byte{1: nums(0)})
		for i, c := range crews {
			want[i] = append(nums(1, c.Faults), nums(c.Nodes...)...)
			hasCrews(t, "new", a, i+1, c)
		}
		has(t, "new", a, want)
		if a.Chunks() != len(crews) || book.Clash() {
			t.Errorf("New(%v): %d chunks, %v", crews, a.Chunks(), book.Clash())
		}
		has(t, "opened", opened(t, want), want)
	}
}

func TestNewRefuses(t *testing.T) {
	for _, crews := range others() {
		for _, book := range append(noBooks(), ink.New()) {
			if a, e := New(book, crews); a != nil || e != api.ErrArg {
				t.Errorf("New(%.200v): %v, %d", crews, a, e)
			}
		}
	}
	for _, crews := range firsts() {
		for _, book := range noBooks() {
			if a, e := New(book, crews); a != nil || e != api.ErrNil {
				t.Errorf("New(%v) of no book: %v, %d", crews, a, e)
			}
		}
	}
}

// swapsOf are so many swaps of one node, beginning with it, by nodes from another one on.
func swapsOf(node, first, many int) []int {
	var l []int
	for _, next := range from(first, many) {
		l = append(l, node, next)
		node = next
	}
	return l
}

// goodChunks are leaves that may be the first two together.
func goodChunks() [][2][]byte {
	with := func(l []int, more ...int) []byte { return nums(append(slices.Clone(l), more...)...) }
	five, nine := []int{5, 6, 7, 8}, []int{9, 10, 11, 12}
	l := [][2][]byte{
		{with([]int{1, 1}, five...), nums(0)}, {with([]int{1, 1}, nine...), with([]int{1, 1}, five...)},
		{nums(2, 1, 5, 6, 7, 8, 6, 20), nums(0)}, {nums(2, 1, 5, 6, 7, 8, 5, 9), nums(0)}, {nums(2, 1, 5, 6, 7, 8, 8, 28), nums(1, 1, 9, 10, 11, 12)},
		{nums(3, 1, 5, 6, 7, 8, 6, 20, 20, 21), nums(3, 1, 9, 10, 11, 12, 9, 22, 10, 13)}, {nums(5, 1, 5, 6, 7, 8, 5, 20, 6, 21, 7, 22, 8, 23), nums(1, 1, 9, 10, 11, 12)},
		{nums(2, 0, 2, 2, 3), nums(2, 0, 4, 4, 5)}, {nums(2, 0, 9, 9, 2), nums(0)}, {nums(2, 2, 8, 9, 10, 11, 12, 13, 14, 14, 15), nums(0)},
		{nums(append([]int{22, 0, 2}, swapsOf(2, 3, 21)...)...), nums(0)}, {nums(append([]int{22, 0, 2}, swapsOf(2, 4, 21)...)...), nums(append([]int{5, 0, 3}, swapsOf(3, 25, 4)...)...)},
		{nums(4, 0, 2, 2, 4, 4, 5, 5, 6), nums(append([]int{22, 0, 3}, swapsOf(3, 7, 21)...)...)},
		{nums(append([]int{21, 1, 5, 6, 7, 8}, swapsOf(7, 9, 20)...)...), nums(0)}, {nums(append([]int{15, 2, 8, 9, 10, 11, 12, 13, 14}, swapsOf(10, 15, 14)...)...), nums(0)},
	}
	return l
}

// badChunks are leaves that may not.
func badChunks() [][2][]byte {
	nine := nums(1, 1, 9, 10, 11, 12)
	l := [][2][]byte{
		{nums(0), nums(0)}, {nums(0), nine}, {nums(1, 1, 5, 6, 7, 8), nums(0, 0)}, {nums(0, 0), nine},
		{nums(2, 1, 5, 6, 7, 8, 8, 9), nine}, {nums(2, 1, 5, 6, 7, 8, 8, 12), nums(2, 1, 9, 10, 11, 12, 12, 20)}, {nums(2, 1, 5, 6, 7, 8, 8, 20), nums(2, 1, 9, 10, 11, 12, 9, 20)},
		{nums(2, 1, 5, 6, 7, 8, 8, 20), nums(2, 1, 9, 10, 11, 12, 9, 8)}, {nums(2, 1, 5, 6, 7, 8, 8, 20), nums(2, 1, 9, 10, 11, 12, 9, 7)}, {nums(3, 1, 5, 6, 7, 8, 8, 20, 20, 21), nums(2, 1, 9, 10, 11, 12, 9, 20)},
		{nums(3, 1, 5, 6, 7, 8, 8, 9, 9, 21), nine}, {nums(1, 1, 5, 6, 7, 8), nums(2, 1, 9, 10, 11, 12, 9, 5)}, {nums(2, 1, 5, 6, 7, 8, 8, 9), nums(2, 1, 9, 10, 11, 12, 9, 20)},
		{nums(1, 0, 5), nine}, {nums(1, 2, 8, 9, 10, 11, 12, 13, 14), nums(1, 1, 15, 16, 17, 18)}, {nums(1, 1, 5, 6, 7, 8), nums(1, 0, 9)}, {nums(1, 0, 5), nums(1, 0, 5)}, {nums(1, 0, 5), nums(1, 0, 1)},
		{nums(append([]int{23, 0, 2}, swapsOf(2, 3, 22)...)...), nums(0)}, {nums(append([]int{27, 0, 2}, swapsOf(2, 3, 26)...)...), nums(0)}, {nums(1, 0, 2), nums(append([]int{23, 0, 3}, swapsOf(3, 4, 22)...)...)},
	}
	// What may be no chunk's leaf: as the first one, and as the second one.
	for _, leaf := range badLeaves() {
		l = append(l, [2][]byte{leaf, nums(0)}, [2][]byte{leaf, nums(1, 1, 25, 26, 27, 28)}, [2][]byte{nums(1, 1, 25, 26, 27, 28), leaf})
	}
	return l
}

// badLeaves are no chunk's, whatever is there beside it.
func badLeaves() [][]byte {
	five := nums(1, 1, 5, 6, 7, 8)
	return [][]byte{
		nil, {}, {1}, {8}, {1, 0}, {255}, nums(1), nums(2), nums(0, 0), nums(0, 1), nums(1, 1), nums(1, 0), nums(1, 0, 1), nums(1, 0, 0), nums(1, 0, 29), nums(1, 1, 5), nums(1, 1, 5, 6, 7), nums(1, 1, 5, 6, 7, 8, 9), nums(1, 1, 5, 6, 7, 8, 6, 20), nums(0, 1, 5, 6, 7, 8), nums(0, 1, 5, 6), nums(0, 2, 8, 9, 10, 11, 12), nums(0, 0, 2),
		nums(2, 1, 5, 6, 7, 8), nums(2, 1, 5, 6, 7, 8, 6), nums(2, 1, 5, 6, 7, 8, 6, 20, 20), nums(2, 1, 5, 6, 7, 8, 6, 20, 20, 21), nums(3, 1, 5, 6, 7, 8, 6, 20), nums(1<<32+1, 1, 5, 6, 7, 8), nums(api.MaxNumber, 1, 5, 6, 7, 8), nums(1<<52+1, 1, 5, 6, 7, 8),
		nums(1, 2, 5, 6, 7, 8), nums(1, 0, 5, 6, 7, 8), nums(1, 3, 11, 12, 13, 14, 15, 16, 17, 18, 19, 20), nums(1, 1<<32+1, 5, 6, 7, 8), nums(1, api.MaxNumber, 5), nums(1, api.MaxNumber),
		nums(1, 1, 5, 6, 8, 7), nums(1, 1, 5, 6, 7, 7), nums(1, 1, 4, 5, 6, 7), nums(1, 1, 1, 2, 3, 4), nums(1, 1, 0, 5, 6, 7), nums(1, 1, 5, 6, 7, 29), nums(1, 2, 7, 8, 9, 10, 11, 12, 13), nums(1, 1, 5, 6, 7, 1<<32+8),
		nums(2, 1, 5, 6, 7, 8, 9, 20), nums(2, 1, 5, 6, 7, 8, 0, 20), nums(2, 1, 5, 6, 7, 8, 20, 6), nums(2, 1, 5, 6, 7, 8, 6, 6), nums(2, 1, 5, 6, 7, 8, 6, 7), nums(2, 1, 5, 6, 7, 8, 6, 4), nums(2, 1, 5, 6, 7, 8, 6, 1), nums(2, 1, 5, 6, 7, 8, 6, 0), nums(2, 1, 5, 6, 7, 8, 6, 29), nums(2, 1, 5, 6, 7, 8, 6, 1<<32+20),
		nums(3, 1, 5, 6, 7, 8, 6, 20, 6, 21), nums(3, 1, 5, 6, 7, 8, 6, 20, 7, 6), nums(3, 1, 5, 6, 7, 8, 6, 20, 20, 6), nums(3, 1, 5, 6, 7, 8, 6, 20, 7, 20), nums(4, 1, 5, 6, 7, 8, 6, 20, 20, 21, 7, 20),
		append(slices.Clone(five), 1), append(slices.Clone(five), 8), append(slices.Clone(five), 0), append(slices.Clone(five), 1, 0), five[:len(five)-1], {1, 1, 1, 1, 2, 0, 5, 1, 6, 1, 7, 1, 8}, {7, 32, 0, 0, 0, 0, 0, 0}, {2, 0, 1, 1, 1, 1, 5, 1, 6, 1, 7, 1, 8},
		make([]byte, 128), make([]byte, 129), make([]byte, 1<<16), told(4, api.OK, 0), text(five),
	}
}

// goodClients are leaves that may be a client's.
func goodClients() [][]byte {
	l := [][]byte{told(0, 0, 0)}
	for _, stamp := range []int{1, 255, 256, api.MaxNumber} {
		for _, err := range []api.Errno{api.OK, api.ErrLimit, api.ErrMap} {
			for _, epoch := range []int{0, 1, 20, 21} {
				l = append(l, told(stamp, err, epoch), told(stamp, err, epoch, 1), told(stamp, err, epoch, 28), told(stamp, err, epoch, 5, 6, 7, 8), told(stamp, err, epoch, 25, 26, 27, 28), told(stamp, err, epoch, 1, 2, 3, 5, 8, 13, 28))
			}
		}
	}
	return l
}

// badClients are leaves that may not.
func badClients() [][]byte {
	l := [][]byte{
		nil, {}, {0}, {1}, {0, 0}, {0, 0, 0}, {0, 0, 0, 0, 0}, {0, 0, 0, 1, 1}, {1, 5, 0, 0}, {1, 5, 0, 0, 1, 1}, {1, 5, 0, 0, 8}, {1, 0, 0, 0, 0}, {2, 0, 5, 0, 0, 0}, {8, 0, 0, 0}, {1, 5, 0, 0, 1}, {1, 5, 0, 0, 0, 1}, {1, 5, 1, 0, 0, 0}, {7, 32, 0, 0, 0, 0, 0, 0, 0, 0, 0},
		told(0, api.ErrMap, 0), told(0, api.ErrLimit, 0), told(0, api.OK, 1), told(0, api.OK, 21), told(0, api.OK, 0, 1), told(0, api.OK, 0, 5, 6, 7, 8), told(0, api.ErrMap, 1, 5, 6, 7, 8),
		told(5, api.OK, 22), told(5, api.ErrMap, 22), told(5, api.OK, 23), told(5, api.OK, 1<<32), told(5, api.OK, api.MaxNumber), told(5, api.OK, 1<<20, 5, 6, 7, 8),
		append(told(5, api.OK, 0), 0), append(told(5, api.OK, 0, 1), 1, 2), append(told(5, api.OK, 0, 5, 6, 7, 8), 1, 9), told(5, api.OK, 0, 5, 6, 7, 8)[:10], nums(5, 0, 0, 4, 5, 6, 7), nums(5, 0, 0, 4, 5, 6, 7, 8, 9), nums(5, 0, 0, 0, 5, 6, 7, 8), nums(5, 0, 0, 0, 5), nums(5, 0, 0, 1, 5, 6, 7, 8), nums(5, 0, 0, 4, 1, 2, 3, 4, 5, 6, 7), nums(5, 0, 0, api.MaxNumber), nums(5, 0, 0, 1<<32+1, 7),
		make([]byte, 128), make([]byte, 129), make([]byte, 1<<16), nums(1, 1, 5, 6, 7, 8), text(told(5, api.OK, 0)),
	}
	for _, err := range []api.Errno{1, 2, 3, 4, 6, 9, api.ErrStamp, api.ErrEpoch, 179, 181, 256, 1<<32 + 5, 1<<32 + api.ErrMap, 1 << 32, api.MaxNumber} {
		l = append(l, told(5, err, 0), told(5, err, 3, 5, 6, 7, 8))
	}
	for _, nodes := range [][]int{{0}, {29}, {1, 2}, {1, 2, 3}, {1, 2, 3, 4, 5}, {1, 2, 3, 4, 5, 6}, from(1, 8), from(1, 10), {1, 2, 3, 3}, {4, 3, 2, 1}, {0, 1, 2, 3}, {26, 27, 28, 29}, {1, 2, 3, 4, 5, 7, 6}, {1, 2, 3, 1<<32 + 4}} {
		l = append(l, told(5, api.OK, 0, nodes...), told(5, api.ErrMap, 2, nodes...))
	}
	return l
}

func TestOpen(t *testing.T) {
	looks := func(leaves [][]byte) {
		t.Helper()
		has(t, "opened", opened(t, leaves), leaves)
		a, e := Load(ink.New(), bytesOf(leaves))
		if e != api.OK {
			t.Fatalf("Load(%x): %d", leaves, e)
		}
		has(t, "loaded", a, leaves)
	}
	for _, l := range goodChunks() {
		looks(leavesOf(map[int][]byte{0: l[0], 1: l[1]}))
	}
	for i := 2; i < 6; i++ {
		for _, leaf := range goodClients() {
			looks(leavesOf(map[int][]byte{i: leaf}))
		}
	}
}

func TestOpenTakesAllOfIt(t *testing.T) {
	a := filled(t)
	hasCrews(t, "opened", a, 1, crewOf(5, 6, 7, 8), crewOf(5, 7, 8, 20), crewOf(5, 7, 8, 13))
	hasCrews(t, "opened", a, 2, crewOf(9, 10, 11, 12), crewOf(9, 10, 11, 28))
	for _, c := range []struct {
		w    api.Wish
		want api.Answer
	}{
		{query(31, 4, 2), api.Answer{Epoch: 1, Nodes: []int{5, 7, 8, 20}}}, {query(32, 9, 2), api.Answer{Err: api.ErrMap}}, {query(34, api.MaxNumber, 2), api.Answer{Epoch: 2}},
		{query(33, 1, 1), api.Answer{Epoch: 2, Nodes: []int{5, 7, 8, 13}}}, {query(33, 2, 2), api.Answer{Epoch: 1, Nodes: []int{9, 10, 11, 28}}},
	} {
		does(t, a, c.w, c.want)
	}
	one := opened(t, leavesOf(map[int][]byte{1: nums(0)}))
	if a.Chunks() != 2 || one.Chunks() != 1 || len(one.Crews(2)) != 0 {
		t.Errorf("%d, %d chunks", a.Chunks(), one.Chunks())
	}
}

func TestOpenRefuses(t *testing.T) {
	refuses := func(leaves [][]byte) {
		t.Helper()
		for _, book := range append(noBooks(), ink.New()) {
			if a, e := Open(book, leaves); a != nil || e != api.ErrArg {
				t.Errorf("Open(%.300x): %v, %d", leaves, a, e)
			}
		}
	}
	for _, l := range badChunks() {
		refuses(leavesOf(map[int][]byte{0: l[0], 1: l[1]}))
	}
	for i := 2; i < 6; i++ {
		for _, leaf := range badClients() {
			refuses(leavesOf(map[int][]byte{i: leaf}))
		}
	}
	good := leavesOf(nil)
	for n := range 6 {
		refuses(good[:n])
		refuses(good[6-n:])
		refuses(append(slices.Clone(good), good[:n+1]...))
		refuses(append(slices.Clone(good[:n]), slices.Repeat([][]byte{told(0, 0, 0)}, 5-n)...))
	}
	refuses(append(slices.Clone(good), told(0, 0, 0)))
	refuses(nil)
	refuses(make([][]byte, 6))
	refuses(make([][]byte, 1<<10))
	slices.Reverse(good)
	refuses(good)
	for _, book := range noBooks() {
		if a, e := Open(book, filledLeaves()); a != nil || e != api.ErrNil {
			t.Errorf("Open with no book: %v, %d", a, e)
		}
	}
}

func TestLoadRefuses(t *testing.T) {
	refuses := func(b []byte, want api.Errno) {
		t.Helper()
		for _, book := range append(noBooks(), ink.New()) {
			if a, e := Load(book, b); a != nil || e != want {
				t.Errorf("Load(%.300x): %v, %d, not %d", b, a, e, want)
			}
		}
	}
	good := filledLeaves()
	for i := range 6 {
		ahead := bytesOf(good[:i])
		refuses(ahead, api.ErrTrunc)
		for _, c := range []struct {
			text []byte
			want api.Errno
		}{
			{[]byte{1}, api.ErrTrunc}, {[]byte{2, 1}, api.ErrTrunc}, {[]byte{1, 16, 0}, api.ErrTrunc}, {[]byte{1, 128, 0}, api.ErrTrunc}, {append([]byte{1, 128}, make([]byte, 127)...), api.ErrTrunc}, {[]byte{1, 129}, api.ErrLimit},
			{[]byte{1, 129, 0}, api.ErrLimit}, {append([]byte{1, 129}, make([]byte, 129)...), api.ErrLimit}, {append([]byte{2, 1, 0}, make([]byte, 256)...), api.ErrLimit}, {[]byte{7, 31, 255, 255, 255, 255, 255, 255}, api.ErrLimit}, {[]byte{7, 32, 0, 0, 0, 0, 0, 0}, api.ErrRange},
			{[]byte{8}, api.ErrSyntax}, {[]byte{255, 0}, api.ErrSyntax}, {[]byte{1, 0}, api.ErrSyntax}, {[]byte{2, 0, 16}, api.ErrSyntax},
		} {
			refuses(slices.Concat(ahead, c.text), c.want)
			if c.want != api.ErrTrunc {
				refuses(slices.Concat(ahead, c.text, bytesOf(good[i:])), c.want)
			}
		}
	}
	b := bytesOf(good)
	for n := range b {
		refuses(b[:n], api.ErrTrunc)
	}
	refuses(append(slices.Clone(b), 0), api.ErrSyntax)
	refuses(append(slices.Clone(b), b...), api.ErrSyntax)
	refuses(append(slices.Clone(b), make([]byte, 1<<20)...), api.ErrSyntax)
	odd := func(leaves [][]byte, long bool) {
		t.Helper()
		b := bytesOf(leaves)
		if long {
			refuses(b, api.ErrLimit)
			return
		}
		refuses(b, api.ErrArg)
		refuses(append(b, 9), api.ErrSyntax)
	}
	for _, l := range badChunks() {
		odd(leavesOf(map[int][]byte{0: l[0], 1: l[1]}), len(l[0]) > 128 || len(l[1]) > 128)
	}
	for _, leaf := range badClients() {
		odd(leavesOf(map[int][]byte{4: leaf}), len(leaf) > 128)
	}
	for _, book := range noBooks() {
		if a, e := Load(book, b); a != nil || e != api.ErrNil {
			t.Errorf("Load with no book: %v, %d", a, e)
		}
	}
}

func TestNone(t *testing.T) {
	for what, a := range nones() {
		for _, w := range []api.Wish{query(31, 1, 1), query(31, 0, 1), replace(34, 1, 1, 6, 20), {}, {Kind: api.WishSeal, Group: 1, Next: []int{1}}, query(-1, 1, 9)} {
			if x, e := a.Do(w); e != api.ErrNil || !alike(x, api.Answer{}) {
				t.Errorf("%s: Do: %+v, %d", what, x, e)
			}
			if x, ok := a.Heard(w); ok || !alike(x, api.Answer{}) {
				t.Errorf("%s: Heard: %+v", what, x)
			}
		}
		d, e := a.Root()
		b, f := a.Bytes()
		if d != (api.Digest{}) || e != api.ErrNil || b != nil || f != api.ErrNil {
			t.Errorf("%s: %x, %d, %x, %d", what, d, e, b, f)
		}
		for _, chunk := range []int{-1, 0, 1, 2, 3, math.MinInt, math.MaxInt} {
			hasCrews(t, what, a, chunk)
		}
		if len(a.Leaves()) != 0 || a.Chunks() != 0 {
			t.Errorf("%s: %x, %d", what, a.Leaves(), a.Chunks())
		}
	}
}

// P17.2

func TestQuery(t *testing.T) {
	for _, name := range []int{31, 32, 33, 34} {
		a := made(t, two()...)
		want := leavesOf(nil)
		for i, chunk := range []int{1, 2, 2, 1} {
			stamp := []int{1, 300, 70000, api.MaxNumber}[i]
			nodes := two()[chunk-1].Nodes
			does(t, a, query(name, stamp, chunk), api.Answer{Nodes: nodes})
			want[name-29] = told(stamp, api.OK, 0, nodes...)
			has(t, "asked", a, want)
		}
	}
}

func TestReplace(t *testing.T) {
	a := made(t, two()...)
	want := leavesOf(nil)
	one, other := []int{1, 1, 5, 6, 7, 8}, []int{1, 1, 9, 10, 11, 12}
	for i, c := range []struct {
		chunk, old, next int
		nodes            []int
	}{
		{1, 6, 20, []int{5, 7, 8, 20}}, {1, 20, 13, []int{5, 7, 8, 13}}, {2, 9, 28, []int{10, 11, 12, 28}}, {1, 5, 14, []int{7, 8, 13, 14}}, {2, 28, 27, []int{10, 11, 12, 27}}, {2, 11, 15, []int{10, 12, 15, 27}},
	} {
		l := &one
		if c.chunk == 2 {
			l = &other
		}
		(*l)[0]++
		*l = append(*l, c.old, c.next)
		does(t, a, replace(34, 2*i+1, c.chunk, c.old, c.next), api.Answer{Epoch: (*l)[0] - 1})
		want[0], want[1], want[5] = nums(one...), nums(other...), told(2*i+1, api.OK, (*l)[0]-1)
		has(t, "replaced", a, want)
		if all := a.Crews(c.chunk); !alikeCrews(all[len(all)-1:], []api.Crew{crewOf(c.nodes...)}) {
			t.Errorf("%d: %v", i, all)
		}
		does(t, a, query(34, 2*i+2, c.chunk), api.Answer{Epoch: (*l)[0] - 1, Nodes: c.nodes})
		want[5] = told(2*i+2, api.OK, (*l)[0]-1, c.nodes...)
		has(t, "asked", a, want)
	}
}

// TestAgain: with the last stamp the last answer comes, whatever else is wished; nothing changes.
func TestAgain(t *testing.T) {
	for _, c := range []struct {
		name, stamp int
		want        api.Answer
	}{
		{31, 4, api.Answer{Epoch: 1, Nodes: []int{5, 7, 8, 20}}}, {32, 9, api.Answer{Err: api.ErrMap}}, {34, api.MaxNumber, api.Answer{Epoch: 2}},
	} {
		for _, a := range []*Atlas{filled(t), opened(t, leavesOf(map[int][]byte{1: nums(0), 2: filledLeaves()[2], 3: filledLeaves()[3], 5: filledLeaves()[5]}))} {
			was := seen(a)
			for _, w := range []api.Wish{query(c.name, c.stamp, 1), query(c.name, c.stamp, 2), replace(c.name, c.stamp, 1, 5, 21), replace(c.name, c.stamp, 1, 6, 7), replace(c.name, c.stamp, 2, 9, 22)} {
				does(t, a, w, c.want)
				if x, ok := a.Heard(w); !ok || !alike(x, c.want) {
					t.Errorf("Heard(%+v): %+v, %v", w, x, ok)
				}
			}
			if seen(a) != was {
				t.Errorf("%d: what was done was done again", c.name)
			}
		}
	}
}

func TestOlder(t *testing.T) {
	for _, c := range []struct{ name, last int }{{31, 4}, {32, 9}, {34, api.MaxNumber}} {
		for _, a := range []*Atlas{filled(t), opened(t, leavesOf(map[int][]byte{1: nums(0), 2: filledLeaves()[2], 3: filledLeaves()[3], 5: filledLeaves()[5]}))} {
			was := seen(a)
			for _, stamp := range []int{1, 2, c.last - 1} {
				for _, w := range []api.Wish{query(c.name, stamp, 1), query(c.name, stamp, 2), replace(c.name, stamp, 1, 5, 21), replace(c.name, stamp, 2, 9, 9+1)} {
					want := api.Answer{Err: api.ErrStamp}
					does(t, a, w, want)
					if x, ok := a.Heard(w); !ok || !alike(x, want) {
						t.Errorf("Heard(%+v): %+v, %v", w, x, ok)
					}
				}
			}
			if seen(a) != was {
				t.Errorf("%d: an older wish was done", c.name)
			}
		}
	}
}

// refusedWishes are such as the atlas filled refuses: by these answers, which are kept.
func refusedWishes() []struct {
	w    api.Wish
	want api.Answer
} {
	var l []struct {
		w    api.Wish
		want api.Answer
	}
	put := func(w api.Wish, want api.Answer) {
		l = append(l, struct {
			w    api.Wish
			want api.Answer
		}{w, want})
	}
	for _, name := range []int{31, 32, 33} { // not the steward's
		put(replace(name, 10, 1, 5, 21), api.Answer{Err: api.ErrMap})
		put(replace(name, 10, 2, 9, 21), api.Answer{Err: api.ErrMap})
		put(replace(name, 10, 1, 6, 7), api.Answer{Err: api.ErrMap})
	}
	for _, old := range []int{1, 4, 6, 20, 9, 28, 14} { // not in the chunk's crew
		put(replace(34, 10, 1, old, 21), api.Answer{Err: api.ErrMap, Epoch: 2})
	}
	for _, old := range []int{1, 4, 12, 5, 13, 27} {
		put(replace(34, 10, 2, old, 21), api.Answer{Err: api.ErrMap, Epoch: 1})
	}
	for _, next := range []int{1, 2, 3, 4, 6, 7, 8, 9, 10, 11, 12, 13, 20, 28} { // used
		put(replace(34, 10, 1, 5, next), api.Answer{Err: api.ErrMap, Epoch: 2})
	}
	for _, next := range []int{1, 2, 3, 4, 5, 6, 7, 8, 9, 11, 12, 13, 20, 28} {
		put(replace(34, 10, 2, 10, next), api.Answer{Err: api.ErrMap, Epoch: 1})
	}
	return l
}

func TestRefusedWishes(t *testing.T) {
	for _, c := range refusedWishes() {
		want := filledLeaves()
		want[5] = told(0, 0, 0)
		a := opened(t, want)
		does(t, a, c.w, c.want)
		want[c.w.Client-29] = told(10, c.want.Err, c.want.Epoch)
		has(t, "refused", a, want)
		does(t, a, query(c.w.Client, 10, 1), c.want)
		does(t, a, query(c.w.Client, 9, 1), api.Answer{Err: api.ErrStamp})
		if x, ok := a.Heard(c.w); !ok || !alike(x, c.want) {
			t.Errorf("Heard(%+v): %+v, %v", c.w, x, ok)
		}
	}
}

// TestUsed: each node that was not refused above is one that may come, once.
func TestUsed(t *testing.T) {
	for _, next := range []int{14, 15, 16, 17, 18, 19, 21, 22, 23, 24, 25, 26, 27} {
		leaves := filledLeaves()
		leaves[5] = told(0, 0, 0)
		a := opened(t, leaves)
		does(t, a, replace(34, 1, 1, 5, next), api.Answer{Epoch: 3})
		does(t, a, replace(34, 2, 2, 9, next), api.Answer{Err: api.ErrMap, Epoch: 1})
		does(t, a, replace(34, 3, 1, 7, next), api.Answer{Err: api.ErrMap, Epoch: 3})
		does(t, a, replace(34, 4, 1, next, 5), api.Answer{Err: api.ErrMap, Epoch: 3})
	}
}

// TestDirectory: of each f the directory's nodes are used, the one behind them is not.
func TestDirectory(t *testing.T) {
	for faults, c := range []api.Crew{crewOf(20), crewOf(20, 21, 22, 23), crewOf(from(20, 7)...)} {
		a := made(t, c)
		for next := 1; next <= 3*faults+1; next++ {
			does(t, a, replace(34, next, 1, 20, next), api.Answer{Err: api.ErrMap})
		}
		does(t, a, replace(34, 100, 1, 20, 3*faults+2), api.Answer{Epoch: 1})
	}
}

func TestNoSuchChunk(t *testing.T) {
	for _, name := range []int{31, 32, 33, 34} {
		for _, w := range []api.Wish{query(name, 7, 2), replace(name, 7, 2, 5, 20), replace(name, 7, 2, 20, 5)} {
			a := made(t, two()[0])
			want := leavesOf(map[int][]byte{1: nums(0), name - 29: told(7, api.ErrMap, 0)})
			does(t, a, w, api.Answer{Err: api.ErrMap})
			has(t, "no such chunk", a, want)
			does(t, a, query(name, 7, 1), api.Answer{Err: api.ErrMap})
			does(t, a, query(name, 8, 1), api.Answer{Nodes: []int{5, 6, 7, 8}})
		}
	}
}

// TestLastEpoch: a chunk has 22 epochs; who refuses anyway does so behind these, too.
func TestLastEpoch(t *testing.T) {
	for _, crews := range [][]api.Crew{{crewOf(2)}, {crewOf(2), crewOf(3)}} {
		a := made(t, crews...)
		old := 2
		for i := range 21 {
			does(t, a, replace(34, i+1, 1, old, i+4), api.Answer{Epoch: i + 1})
			old = i + 4
		}
		want := a.Leaves()
		does(t, a, replace(34, 22, 1, old, 26), api.Answer{Err: api.ErrLimit})
		want[5] = told(22, api.ErrLimit, 0)
		has(t, "at the limit", a, want)
		does(t, a, replace(34, 22, 1, 2, 26), api.Answer{Err: api.ErrLimit})
		does(t, a, replace(34, 23, 1, 2, 26), api.Answer{Err: api.ErrMap, Epoch: 21})
		does(t, a, replace(34, 24, 1, old, 2), api.Answer{Err: api.ErrMap, Epoch: 21})
		does(t, a, replace(34, 25, 1, old, 1), api.Answer{Err: api.ErrMap, Epoch: 21})
		does(t, a, replace(31, 25, 1, old, 26), api.Answer{Err: api.ErrMap})
		does(t, a, query(34, 26, 1), api.Answer{Epoch: 21, Nodes: []int{old}})
		if len(a.Crews(1)) != 22 {
			t.Errorf("%d crews", len(a.Crews(1)))
		}
		leaves := a.Leaves()
		has(t, "opened", opened(t, leaves), leaves)
		if len(crews) == 2 {
			does(t, a, replace(34, 27, 2, 3, 26), api.Answer{Epoch: 1})
		}
	}
}

// TestOtherChunksLastEpoch: the chunk 2 has its own epochs.
func TestOtherChunksLastEpoch(t *testing.T) {
	a := made(t, crewOf(2), crewOf(3))
	old := 3
	for i := range 21 {
		does(t, a, replace(34, i+1, 2, old, i+4), api.Answer{Epoch: i + 1})
		old = i + 4
	}
	does(t, a, replace(34, 22, 2, old, 26), api.Answer{Err: api.ErrLimit})
	does(t, a, replace(34, 23, 1, 2, 26), api.Answer{Epoch: 1})
}

func TestDoRefuses(t *testing.T) {
	change := func(w api.Wish, f func(w *api.Wish)) api.Wish {
		f(&w)
		return w
	}
	l := []api.Wish{
		{}, {Kind: api.WishNone, Client: 34, Stamp: 1, Block: 1}, {Kind: 6, Client: 34, Stamp: 1, Block: 1}, {Kind: -1, Client: 34, Stamp: 1, Block: 1},
		{Kind: api.WishRead, Client: 31, Stamp: 4, Group: 1, Block: 1}, {Kind: api.WishRead, Client: 31, Stamp: 4, Block: 1}, {Kind: api.WishRead, Client: 31, Stamp: 3, Group: 2}, {Kind: api.WishWrite, Client: 31, Stamp: 9, Group: 1, Block: 1, Data: make([]byte, 16)},
		{Kind: api.WishSeal, Group: 1, Next: []int{1, 2, 3, 4}}, {Kind: api.WishSeal, Group: 2, Next: []int{1}}, {Kind: api.WishSeal, Next: []int{1}},
		replace(34, 1, 1, 5, 5), replace(34, 1, 1, 0, 5), replace(34, 1, 1, 5, 0), replace(34, 1, 1, 29, 5), replace(34, 1, 1, 5, 29), replace(34, 1, 1, -1, 20), replace(34, 1, 1, 5, 1<<32+20), replace(34, 1, 1, math.MinInt, math.MaxInt),
	}
	for _, w := range []api.Wish{query(31, 4, 1), query(31, 5, 1), query(33, 1, 2), replace(34, 4, 1, 5, 21)} {
		for _, n := range []int{-1, 0, 3, 4, 1<<32 + 1, math.MinInt, math.MaxInt} {
			l = append(l, change(w, func(w *api.Wish) { w.Block = n }))
		}
		for _, n := range []int{-1, 0, 1, 30, 35, 1<<32 + 31, math.MinInt, math.MaxInt} {
			l = append(l, change(w, func(w *api.Wish) { w.Client = n }))
		}
		for _, n := range []int{0, -1, 1 << 53, math.MinInt, math.MaxInt} {
			l = append(l, change(w, func(w *api.Wish) { w.Stamp = n }))
		}
		for _, n := range []int{-1, 1, 2, math.MaxInt} {
			l = append(l, change(w, func(w *api.Wish) { w.Group = n }), change(w, func(w *api.Wish) { w.Epoch = n }))
		}
		l = append(l, change(w, func(w *api.Wish) { w.Data = make([]byte, 16) }), change(w, func(w *api.Wish) { w.Data = []byte{0} }), change(w, func(w *api.Wish) { w.Next = []int{1} }))
	}
	l = append(l, change(query(31, 5, 1), func(w *api.Wish) { w.Old = 5 }), change(query(31, 5, 1), func(w *api.Wish) { w.New = 5 }))
	a := filled(t)
	was := seen(a)
	for _, w := range l {
		if x, e := a.Do(w); e != api.ErrArg || !alike(x, api.Answer{}) {
			t.Errorf("Do(%+v): %+v, %d", w, x, e)
		}
		if x, ok := a.Heard(w); ok || !alike(x, api.Answer{}) {
			t.Errorf("Heard(%+v): %+v", w, x)
		}
	}
	if seen(a) != was {
		t.Error("something changed")
	}
}

func TestHeardIsNotNew(t *testing.T) {
	a := opened(t, leavesOf(map[int][]byte{2: told(4, api.OK, 0)}))
	was := seen(a)
	for _, w := range []api.Wish{query(31, 5, 1), query(31, api.MaxNumber, 2), query(32, 1, 1), query(34, 1, 1), replace(34, 1, 1, 6, 20), replace(34, 1, 1, 6, 7), replace(31, 5, 1, 6, 20)} {
		for range 2 {
			if x, ok := a.Heard(w); ok || !alike(x, api.Answer{}) {
				t.Errorf("Heard(%+v): %+v", w, x)
			}
		}
	}
	if seen(a) != was {
		t.Error("something changed")
	}
}

// P17.3

func TestCrews(t *testing.T) {
	a, one := filled(t), made(t, two()[0])
	for _, chunk := range []int{-1, 0, 3, 4, 1<<32 + 1, -1 << 32, math.MinInt, math.MaxInt} {
		hasCrews(t, "no chunk", a, chunk)
		hasCrews(t, "no chunk", one, chunk)
	}
	hasCrews(t, "of one", one, 1, crewOf(5, 6, 7, 8))
	hasCrews(t, "of one", one, 2)
	if a.Chunks() != 2 || one.Chunks() != 1 {
		t.Errorf("%d, %d chunks", a.Chunks(), one.Chunks())
	}
}

// P17.4

// wipe spoils numbers, and their spare room.
func wipe[T int | byte](l []T) {
	l = l[:cap(l)]
	for i := range l {
		l[i] += 35
	}
}

func TestAnswersAreNewMemory(t *testing.T) {
	a := filled(t)
	was := seen(a)
	leaves := a.Leaves()
	for i, l := range leaves {
		rest := bytesOf(leaves[i+1:])
		wipe(l)
		if !bytes.Equal(bytesOf(leaves[i+1:]), rest) {
			t.Errorf("the leaf %d shares memory with those behind it", i)
		}
	}
	b, _ := a.Bytes()
	wipe(b)
	for chunk := 1; chunk <= 2; chunk++ {
		all := a.Crews(chunk)
		for i, c := range all {
			rest := fmt.Sprint(all[i+1:])
			wipe(c.Nodes)
			if fmt.Sprint(all[i+1:]) != rest {
				t.Errorf("the crew %d shares memory with those behind it", i)
			}
		}
		clear(all[:cap(all)])
	}
	for range 2 {
		x, _ := a.Do(query(31, 4, 1))
		wipe(x.Nodes)
		x, _ = a.Heard(query(31, 4, 1))
		wipe(x.Nodes)
	}
	if seen(a) != was {
		t.Error("what was answered was kept")
	}
}

func TestANewAnswerIsNewMemory(t *testing.T) {
	a := filled(t)
	want := api.Answer{Epoch: 2, Nodes: []int{5, 7, 8, 13}}
	for stamp := 1; stamp < 4; stamp++ {
		x, _ := a.Do(query(33, stamp, 1))
		wipe(x.Nodes)
		does(t, a, query(33, stamp, 1), want)
	}
	hasCrews(t, "asked", a, 1, crewOf(5, 6, 7, 8), crewOf(5, 7, 8, 20), crewOf(5, 7, 8, 13))
	does(t, a, query(32, 10, 1), want)
}

func TestCrewsAreNotKept(t *testing.T) {
	crews := append(two(), crewOf(1, 2, 3, 4))
	crews[0].Nodes = append(crews[0].Nodes, 1, 2, 3)[:4]
	a, b := made(t, crews[:2]...), made(t, crews[:2]...)
	if !alikeCrews(crews, append(two(), crewOf(1, 2, 3, 4))) || !slices.Equal(crews[0].Nodes[:7], []int{5, 6, 7, 8, 1, 2, 3}) {
		t.Errorf("what was handed in changed: %v", crews)
	}
	was := seen(a)
	wipe(crews[0].Nodes)
	wipe(crews[1].Nodes)
	clear(crews)
	if seen(a) != was || seen(b) != was {
		t.Error("what was handed in was kept")
	}
	does(t, a, replace(34, 1, 1, 6, 20), api.Answer{Epoch: 1})
	if seen(b) != was {
		t.Error("two atlases of the same crews share something")
	}
}

func TestLeavesAreNotKept(t *testing.T) {
	leaves := filledLeaves()
	b := bytesOf(leaves)
	v, w := opened(t, leaves), opened(t, leaves)
	x, e := Load(ink.New(), b)
	if e != api.OK || !bytes.Equal(bytesOf(leaves), b) {
		t.Fatalf("%d; or Open changed its leaves", e)
	}
	was := seen(v)
	for _, l := range leaves {
		wipe(l)
	}
	wipe(b)
	clear(leaves)
	if seen(v) != was || seen(w) != was || seen(x) != was {
		t.Error("what was handed in was kept")
	}
	does(t, v, query(33, 1, 1), api.Answer{Epoch: 2, Nodes: []int{5, 7, 8, 13}})
	if seen(w) != was || seen(x) != was {
		t.Error("two atlases of the same leaves share something")
	}
}

// P17.5

// wishes are some at random, of clients whose stamps rise mostly, the steward's so that many are done.
func wishes(r *rand.Rand, many int) []api.Wish {
	stamps := map[int]int{}
	var l []api.Wish
	for range many {
		name := []int{31, 32, 33, 34, 34, 34, 34}[r.Intn(7)]
		stamps[name] += r.Intn(4)
		w := query(name, max(1, stamps[name]-r.Intn(2)*r.Intn(2)), 1+r.Intn(2))
		if r.Intn(4) > 0 {
			w.Kind, w.Old, w.New = api.WishReplace, 1+r.Intn(28), 1+r.Intn(28)
			if w.Old == w.New {
				w.New = 1 + w.Old%28
			}
		}
		l = append(l, w)
	}
	return l
}

func TestEpochsFollowEachOther(t *testing.T) {
	for seed := range int64(40) {
		crews := firsts()[seed%int64(len(firsts()))]
		a := made(t, crews...)
		for _, w := range wishes(rand.New(rand.NewSource(seed)), 600) {
			was := [2][]api.Crew{a.Crews(1), a.Crews(2)}
			x, _ := a.Do(w)
			for i, l := range was {
				now := a.Crews(i + 1)
				if len(now) > len(l) && (w.Block != i+1 || len(now) != len(l)+1 || x.Epoch != len(l) || x.Err != api.OK) || !alikeCrews(now[:len(l)], l) {
					t.Fatalf("seed %d: %+v: %v and then %v", seed, w, l, now)
				}
			}
		}
		served := map[int]bool{}
		for i := 1; i <= 3*crews[0].Faults+1; i++ {
			served[i] = true
		}
		for chunk := 1; chunk <= 2; chunk++ {
			var last []int
			for epoch, c := range a.Crews(chunk) {
				came := slices.DeleteFunc(slices.Clone(c.Nodes), func(n int) bool { return slices.Contains(last, n) })
				if epoch > 0 && len(came) != 1 || len(c.Nodes) != len(crews[0].Nodes) || !slices.IsSorted(c.Nodes) {
					t.Fatalf("seed %d: the crew %v behind %v", seed, c, last)
				}
				for _, n := range came {
					if served[n] {
						t.Fatalf("seed %d: %d served already", seed, n)
					}
					served[n] = true
				}
				last = c.Nodes
			}
		}
	}
}

// P17.6

func TestTheSameWishesTheSameAnswers(t *testing.T) {
	for seed := range int64(12) {
		book := ink.New()
		a, _ := New(book, two())
		b, _ := New(ink.New(), two())
		c, _ := New(book, two())
		for i, w := range wishes(rand.New(rand.NewSource(seed)), 300) {
			x, e := a.Do(w)
			y, f := b.Do(w)
			z, g := c.Do(w)
			if e != api.OK || f != api.OK || g != api.OK || !alike(x, y) || !alike(x, z) || seen(a) != seen(b) || seen(a) != seen(c) {
				t.Fatalf("seed %d, %d: %+v and %+v; %d, %d, %d", seed, i, x, y, e, f, g)
			}
			if i%50 == 49 { // one goes on from its bytes
				l, _ := b.Bytes()
				if b, e = Load(ink.New(), l); e != api.OK {
					t.Fatalf("Load: %d", e)
				}
			}
		}
	}
}

func TestDoneOnce(t *testing.T) {
	for seed := range int64(20) {
		a := made(t, two()...)
		done := 0
		for _, w := range wishes(rand.New(rand.NewSource(seed)), 300) {
			x, _ := a.Do(w)
			if x.Err == api.ErrStamp {
				continue
			}
			done++
			was := seen(a)
			for range 2 {
				does(t, a, w, x)
				if y, ok := a.Heard(w); !ok || !alike(x, y) {
					t.Errorf("seed %d: Heard: %+v, %v", seed, y, ok)
				}
			}
			if seen(a) != was {
				t.Fatalf("seed %d: %+v was done twice", seed, w)
			}
		}
		if done < 100 {
			t.Errorf("seed %d: %d were done only", seed, done)
		}
	}
}

// P17.7

func TestLeavesMakeItAgain(t *testing.T) {
	for seed := range int64(30) {
		a := made(t, firsts()[seed%int64(len(firsts()))]...)
		for i, w := range wishes(rand.New(rand.NewSource(seed)), 600) {
			a.Do(w)
			if i%11 != 0 {
				continue
			}
			b, _ := a.Bytes()
			x, e := Load(ink.New(), b)
			if e != api.OK || seen(x) != seen(a) {
				t.Fatalf("seed %d: Load: %d", seed, e)
			}
			if y := opened(t, a.Leaves()); seen(y) != seen(a) {
				t.Fatalf("seed %d: Open", seed)
			}
		}
	}
}

func TestRootsTellLeavesApart(t *testing.T) {
	book := ink.New()
	by := map[api.Digest]string{}
	many := 0
	note := func(leaves [][]byte) {
		a, e := Open(book, leaves)
		if e != api.OK {
			t.Fatalf("Open(%x): %d", leaves, e)
		}
		d, _ := a.Root()
		b, _ := a.Bytes()
		if was, is := by[d]; is && was != string(b) {
			t.Errorf("%x and %x have one root", was, b)
		}
		by[d] = string(b)
		many++
	}
	for _, l := range goodChunks() {
		for _, leaf := range goodClients() {
			for i := 2; i < 6; i++ {
				note(leavesOf(map[int][]byte{0: l[0], 1: l[1], i: leaf}))
			}
		}
	}
	whole := map[string]bool{}
	for _, b := range by {
		whole[b] = true
	}
	if len(whole) != len(by) || len(by) < 4000 || many <= len(by) || book.Clash() {
		t.Errorf("%d roots, %d atlases, %d times", len(by), len(whole), many)
	}
}

// TestOneWayOnly: bytes that are taken are those that are told; spoiled ones mostly aren't.
func TestOneWayOnly(t *testing.T) {
	r := rand.New(rand.NewSource(17))
	book := ink.New()
	got := map[api.Errno]int{}
	for _, leaves := range [][][]byte{filledLeaves(), leavesOf(nil), leavesOf(map[int][]byte{1: nums(0)})} {
		whole := bytesOf(leaves)
		for range 8000 {
			b := slices.Clone(whole)
			for range 1 + r.Intn(3) {
				switch i := r.Intn(len(b)); r.Intn(6) {
				case 0:
					b = slices.Delete(b, i, i+1)
				case 1:
					b = slices.Insert(b, i, byte(r.Intn(3)))
				case 2:
					b[i] = byte(r.Intn(200))
				default:
					b[i] = byte(r.Intn(30))
				}
			}
			a, e := Load(book, b)
			got[e]++
			if e != api.OK {
				continue
			}
			if c, e := a.Bytes(); e != api.OK || !bytes.Equal(b, c) {
				t.Fatalf("%x is told as %x, %d", b, c, e)
			}
		}
	}
	for _, e := range []api.Errno{api.OK, api.ErrArg, api.ErrTrunc, api.ErrSyntax, api.ErrLimit} {
		if got[e] < 20 {
			t.Errorf("%d was told %d times only", e, got[e])
		}
	}
}

func FuzzLoad(f *testing.F) {
	f.Add(bytesOf(leavesOf(nil)))
	f.Add(bytesOf(filledLeaves()))
	f.Fuzz(func(t *testing.T, b []byte) {
		a, e := Load(ink.New(), b)
		if e != api.OK {
			return
		}
		if c, e := a.Bytes(); e != api.OK || !bytes.Equal(b, c) {
			t.Errorf("%x is told as %x, %d", b, c, e)
		}
	})
}

// The chapter's examples.

func TestExamples(t *testing.T) {
	a := made(t, two()...)
	nine := api.Answer{Nodes: []int{9, 10, 11, 12}}
	does(t, a, query(31, 1, 2), nine)
	does(t, a, query(31, 1, 2), nine)
	does(t, a, replace(34, 1, 1, 6, 20), api.Answer{Epoch: 1})
	does(t, a, replace(34, 2, 1, 6, 21), api.Answer{Err: api.ErrMap, Epoch: 1})
	does(t, a, replace(34, 3, 1, 7, 6), api.Answer{Err: api.ErrMap, Epoch: 1})
	does(t, a, replace(31, 2, 1, 7, 21), api.Answer{Err: api.ErrMap})
}
