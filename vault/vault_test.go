package vault

import (
	"bytes"
	"crypto/sha256"
	"fmt"
	"math"
	"math/rand"
	"slices"
	"strings"
	"testing"

	"bastide/api"
	"bastide/ink"
)

// num is a number's bytes, text a text's, by chapter 1's words.
func num(n int) []byte {
	var b []byte
	for ; n > 0; n >>= 8 {
		b = append([]byte{byte(n)}, b...)
	}
	return append([]byte{byte(len(b))}, b...)
}

func text(b []byte) []byte {
	return append(num(len(b)), b...)
}

// told is a client's leaf, last the leaf 12.
func told(stamp int, data ...byte) []byte {
	return append(num(stamp), text(data)...)
}

func last(group, epoch int, nodes ...int) []byte {
	b := slices.Concat(num(group), num(epoch), num(len(nodes)))
	for _, n := range nodes {
		b = append(b, num(n)...)
	}
	return b
}

// block is sixteen times the same.
func block(x byte) []byte {
	return bytes.Repeat([]byte{x}, 16)
}

// leavesOf are the leaves of a vault to which nothing was done, but for some.
func leavesOf(others map[int][]byte) [][]byte {
	var l [][]byte
	for i := range 13 {
		switch leaf, is := others[i]; {
		case is:
			l = append(l, leaf)
		case i < 8:
			l = append(l, make([]byte, 16))
		case i < 12:
			l = append(l, told(0))
		default:
			l = append(l, last(1, 0))
		}
	}
	return l
}

func bytesOf(leaves [][]byte) []byte {
	var b []byte
	for _, l := range leaves {
		b = append(b, text(l)...)
	}
	return b
}

// rootOf is the root of thirteen leaves, by chapter 9's words.
func rootOf(leaves [][]byte) api.Digest {
	var low []byte
	for _, l := range leaves {
		d := sha256.Sum256(append([]byte{0}, l...))
		low = append(low, d[:]...)
	}
	up := []byte{1}
	for four := range slices.Chunk(low, 4*32) {
		d := sha256.Sum256(append([]byte{1}, four...))
		up = append(up, d[:]...)
	}
	return sha256.Sum256(up)
}

func read(client, stamp, epoch, block int) api.Wish {
	return api.Wish{Kind: api.WishRead, Client: client, Stamp: stamp, Group: 1, Epoch: epoch, Block: block}
}

func write(client, stamp, epoch, block int, data []byte) api.Wish {
	return api.Wish{Kind: api.WishWrite, Client: client, Stamp: stamp, Group: 1, Epoch: epoch, Block: block, Data: data}
}

func sealOf(epoch int, nodes ...int) api.Wish {
	return api.Wish{Kind: api.WishSeal, Group: 1, Epoch: epoch, Next: nodes}
}

// alike tells whether answers are the same.
func alike(a, b api.Answer) bool {
	return a.Err == b.Err && bytes.Equal(a.Data, b.Data) && a.Epoch == b.Epoch && slices.Equal(a.Nodes, b.Nodes)
}

func made(t *testing.T) *Vault {
	t.Helper()
	v, e := New(ink.New(), 1)
	if e != api.OK || v == nil {
		t.Fatalf("New: %d", e)
	}
	return v
}

func opened(t *testing.T, leaves [][]byte) *Vault {
	t.Helper()
	v, e := Open(ink.New(), leaves)
	if e != api.OK || v == nil {
		t.Fatalf("Open: %d", e)
	}
	return v
}

func does(t *testing.T, v *Vault, w api.Wish, want api.Answer) {
	t.Helper()
	if a, e := v.Do(w); e != api.OK || !alike(a, want) {
		t.Errorf("Do(%+v): %+v, %d, not %+v", w, a, e, want)
	}
}

func is(t *testing.T, what string, got, want api.Errno) {
	t.Helper()
	if got != want {
		t.Errorf("%s: %d, not %d", what, got, want)
	}
}

// seen is all that a vault tells, but for what it answers to wishes.
func seen(v *Vault) string {
	b, e := v.Bytes()
	d, f := v.Root()
	out := []string{fmt.Sprint(b, e, d, f, v.Leaves(), v.Group(), v.Epoch(), v.Sealed())}
	for i := range 8 {
		l, g := v.Look(i)
		out = append(out, fmt.Sprint(l, g))
	}
	return strings.Join(out, "; ")
}

// has looks at a vault by its leaves: they, its bytes, its root and its blocks.
func has(t *testing.T, what string, v *Vault, want [][]byte) {
	t.Helper()
	if l := v.Leaves(); !slices.EqualFunc(l, want, bytes.Equal) {
		t.Errorf("%s: Leaves: %x, not %x", what, l, want)
	}
	if b, e := v.Bytes(); e != api.OK || !bytes.Equal(b, bytesOf(want)) {
		t.Errorf("%s: Bytes: %x, %d", what, b, e)
	}
	if d, e := v.Root(); e != api.OK || d != rootOf(want) {
		t.Errorf("%s: Root: %x, %d", what, d, e)
	}
	for i := range 8 {
		if b, e := v.Look(i); e != api.OK || !bytes.Equal(b, want[i]) {
			t.Errorf("%s: Look(%d): %x, %d", what, i, b, e)
		}
	}
}

// filled is a vault of the epoch 3, in which 31 wrote at stamp 4, 32 read at 9, 34 read at the last stamp of all.
func filled(t *testing.T) *Vault {
	t.Helper()
	return opened(t, leavesOf(map[int][]byte{
		0: block(1), 3: block(7), 7: {0, 1, 2, 3, 4, 5, 6, 7, 8, 9, 10, 11, 12, 13, 14, 15},
		8: told(4), 9: told(9, block(5)...), 11: told(api.MaxNumber, block(6)...),
		12: last(1, 3),
	}))
}

// sealedOne is the same, with a seal.
func sealedOne(t *testing.T) *Vault {
	t.Helper()
	v := filled(t)
	does(t, v, sealOf(3, 5, 6, 7, 9), api.Answer{})
	return v
}

// nones are vaults that none of New, Load, Open made.
func nones() map[string]*Vault {
	return map[string]*Vault{"nil": nil, "one that no call made": {}, "a new zero one": new(Vault)}
}

// noBooks are books that ink.New did not make.
func noBooks() []*ink.Book {
	return []*ink.Book{nil, {}}
}

// P16.1

func TestNew(t *testing.T) {
	for _, group := range []int{1, 2} {
		book := ink.New()
		v, e := New(book, group)
		if e != api.OK {
			t.Fatalf("New(%d): %d", group, e)
		}
		has(t, "new", v, leavesOf(map[int][]byte{12: last(group, 0)}))
		if v.Group() != group || v.Epoch() != 0 || len(v.Sealed()) != 0 {
			t.Errorf("New(%d): %d, %d, %v", group, v.Group(), v.Epoch(), v.Sealed())
		}
		is(t, "Turn", v.Turn(), api.ErrEpoch)
		if book.Clash() {
			t.Error("a clash")
		}
	}
}

func TestNewRefuses(t *testing.T) {
	for _, group := range []int{0, 3, 4, -1, -2, 1<<32 + 1, 1<<32 + 2, math.MinInt, math.MinInt + 1, math.MaxInt} {
		for _, book := range append(noBooks(), ink.New()) {
			if v, e := New(book, group); v != nil || e != api.ErrArg {
				t.Errorf("New(%d): %v, %d", group, v, e)
			}
		}
	}
	for _, book := range noBooks() {
		for _, group := range []int{1, 2} {
			if v, e := New(book, group); v != nil || e != api.ErrNil {
				t.Errorf("New(%d) of no book: %v, %d", group, v, e)
			}
		}
	}
}

// goodLeaves are leaves that may stand at a place.
func goodLeaves() map[int][][]byte {
	out := map[int][][]byte{}
	for i := range 8 {
		out[i] = [][]byte{block(0), block(255), block(byte(i)), {0, 1, 2, 3, 4, 5, 6, 7, 8, 9, 10, 11, 12, 13, 14, 15}}
	}
	for i := 8; i < 12; i++ {
		out[i] = [][]byte{told(0)}
		for _, stamp := range []int{1, 255, 256, 1 << 32, api.MaxNumber} {
			out[i] = append(out[i], told(stamp), told(stamp, block(0)...), told(stamp, block(9)...))
		}
	}
	for _, group := range []int{1, 2} {
		for _, epoch := range []int{0, 1, 255, 256, 1<<20 - 1, 1 << 20} {
			out[12] = append(out[12], last(group, epoch), last(group, epoch, 1), last(group, epoch, 28), last(group, epoch, 1, 2, 3, 4), last(group, epoch, 25, 26, 27, 28), last(group, epoch, 3, 5, 8, 13, 21, 22, 28))
		}
	}
	return out
}

// badLeaves are leaves that may not.
func badLeaves() map[int][][]byte {
	out := map[int][][]byte{}
	for i := range 8 {
		out[i] = [][]byte{nil, {}, {0}, block(0)[:15], append(block(0), 0), append(block(1), block(1)...), make([]byte, 128), make([]byte, 1<<16), text(block(1))}
	}
	for i := 8; i < 12; i++ {
		out[i] = [][]byte{
			nil, {}, {0}, {1}, {1, 5}, {8}, {1, 0, 0}, {2, 0, 1, 0}, {0, 1}, {0, 0, 0}, append(told(5), 0), append(told(5, block(1)...), 0), {1, 5, 1},
			told(0, block(0)...), told(0, block(1)...), told(5, 0), told(5, block(1)[:15]...), told(5, append(block(1), 1)...), told(5, make([]byte, 32)...), told(5, make([]byte, 120)...),
			told(5, make([]byte, 1<<16)...), {7, 32, 0, 0, 0, 0, 0, 0, 0}, {7, 255, 255, 255, 255, 255, 255, 255, 0}, told(5, block(1)...)[:18], {1, 5, 1, 0}, {1, 5, 2, 0, 16},
			slices.Concat([]byte{1, 5, 2, 0, 16}, block(1)), slices.Concat([]byte{1, 5, 8}, block(1)), block(0), block(1),
		}
	}
	for _, epoch := range []int{0, 3, 1 << 20} {
		for _, nodes := range [][]int{{0}, {29}, {1, 2}, {1, 2, 3}, {1, 2, 3, 4, 5}, {1, 2, 3, 4, 5, 6}, {1, 2, 3, 4, 5, 6, 7, 8}, {1, 2, 3, 4, 5, 6, 7, 8, 9, 10}, {1, 2, 3, 3}, {2, 1, 3, 4}, {4, 3, 2, 1}, {0, 1, 2, 3}, {26, 27, 28, 29}, {1, 2, 3, 4, 5, 7, 6}, {1, 2, 3, 1<<32 + 4}} {
			out[12] = append(out[12], last(1, epoch, nodes...))
		}
		for _, group := range []int{0, 3, 256, 257, 1<<32 + 1, api.MaxNumber} {
			out[12] = append(out[12], last(group, epoch), last(group, epoch, 1, 2, 3, 4))
		}
	}
	for _, epoch := range []int{1<<20 + 1, 1 << 21, 1 << 32, api.MaxNumber} {
		out[12] = append(out[12], last(1, epoch), last(2, epoch, 1, 2, 3, 4))
	}
	out[12] = append(out[12], nil, []byte{}, []byte{1}, []byte{1, 1}, []byte{1, 1, 0}, []byte{1, 1, 0, 1}, []byte{1, 1, 0, 0, 0}, append(last(1, 0), 1, 1), append(last(1, 0), 8), append(last(1, 0), 1), append(last(1, 0), 2, 0, 1), append(last(1, 0, 1, 2, 3, 4), 9), append(last(1, 0, 1, 2, 3, 4), 0), append(last(1, 0, 1, 2, 3, 4), 1, 5),
		[]byte{1, 1, 0, 1, 1}, []byte{1, 1, 0, 1, 4, 1, 1, 1, 2, 1, 3}, []byte{2, 0, 1, 0, 0}, []byte{1, 1, 1, 0, 0}, []byte{1, 1, 0, 8}, []byte{1, 1, 0, 7, 255, 255, 255, 255, 255, 255, 255}, make([]byte, 128), make([]byte, 1<<16), block(0), told(5, block(1)...))
	return out
}

func TestOpen(t *testing.T) {
	for i, l := range goodLeaves() {
		for _, leaf := range l {
			leaves := leavesOf(map[int][]byte{i: leaf})
			v := opened(t, leaves)
			has(t, "opened", v, leaves)
			w, e := Load(ink.New(), bytesOf(leaves))
			if e != api.OK {
				t.Fatalf("Load(%x): %d", leaves, e)
			}
			has(t, "loaded", w, leaves)
		}
	}
}

func TestOpenTakesAllOfIt(t *testing.T) {
	v := opened(t, leavesOf(map[int][]byte{9: told(300, block(4)...), 12: last(2, 70000, 3, 9, 21, 28)}))
	if v.Group() != 2 || v.Epoch() != 70000 || !slices.Equal(v.Sealed(), []int{3, 9, 21, 28}) {
		t.Errorf("%d, %d, %v", v.Group(), v.Epoch(), v.Sealed())
	}
	w := read(32, 300, 0, 0)
	w.Group = 2
	does(t, v, w, api.Answer{Data: block(4)})
	w.Client, w.Epoch = 31, 70000
	does(t, v, w, api.Answer{Err: api.ErrEpoch, Epoch: 70001})
}

func TestOpenRefuses(t *testing.T) {
	refuses := func(leaves [][]byte) {
		t.Helper()
		for _, book := range append(noBooks(), ink.New()) {
			if v, e := Open(book, leaves); v != nil || e != api.ErrArg {
				t.Errorf("Open(%.200x): %v, %d", leaves, v, e)
			}
		}
	}
	for i, l := range badLeaves() {
		for _, leaf := range l {
			refuses(leavesOf(map[int][]byte{i: leaf}))
		}
	}
	good := leavesOf(nil)
	for n := range 13 {
		refuses(good[:n])
		refuses(good[13-n:])
		refuses(append(slices.Clone(good), good[:n+1]...))
	}
	refuses(nil)
	refuses(make([][]byte, 13))
	refuses(make([][]byte, 1<<10))
	slices.Reverse(good)
	refuses(good)
	for _, book := range noBooks() {
		if v, e := Open(book, leavesOf(nil)); v != nil || e != api.ErrNil {
			t.Errorf("Open with no book: %v, %d", v, e)
		}
	}
}

func TestLoadRefuses(t *testing.T) {
	refuses := func(b []byte, want api.Errno) {
		t.Helper()
		for _, book := range append(noBooks(), ink.New()) {
			if v, e := Load(book, b); v != nil || e != want {
				t.Errorf("Load(%.200x): %v, %d, not %d", b, v, e, want)
			}
		}
	}
	good := filled(t).Leaves()
	for i := range 13 {
		ahead := bytesOf(good[:i])
		refuses(ahead, api.ErrTrunc)
		for _, c := range []struct {
			text []byte
			want api.Errno
		}{
			{[]byte{1}, api.ErrTrunc}, {[]byte{2, 1}, api.ErrTrunc}, {[]byte{1, 16, 0}, api.ErrTrunc}, {[]byte{1, 128, 0}, api.ErrTrunc}, {append([]byte{1, 128}, make([]byte, 127)...), api.ErrTrunc}, {[]byte{1, 129}, api.ErrLimit},
			{[]byte{1, 129, 0}, api.ErrLimit}, {append([]byte{1, 129}, make([]byte, 129)...), api.ErrLimit}, {append([]byte{2, 1, 0}, make([]byte, 256)...), api.ErrLimit}, {[]byte{7, 31, 255, 255, 255, 255, 255, 255}, api.ErrLimit}, {[]byte{7, 32, 0, 0, 0, 0, 0, 0}, api.ErrRange},
			{[]byte{8}, api.ErrSyntax}, {[]byte{255, 0}, api.ErrSyntax}, {[]byte{1, 0}, api.ErrSyntax}, {[]byte{2, 0, 16}, api.ErrSyntax},
		} {
			refuses(slices.Concat(ahead, c.text), c.want)
			if c.want != api.ErrTrunc {
				refuses(slices.Concat(ahead, c.text, bytesOf(good[i:])), c.want)
			}
		}
	}
	b := bytesOf(good)
	for n := range b {
		refuses(b[:n], api.ErrTrunc)
	}
	refuses(append(slices.Clone(b), 0), api.ErrSyntax)
	refuses(append(slices.Clone(b), b...), api.ErrSyntax)
	refuses(append(slices.Clone(b), make([]byte, 1<<20)...), api.ErrSyntax)
	for i, l := range badLeaves() {
		for _, leaf := range l {
			b := bytesOf(leavesOf(map[int][]byte{i: leaf}))
			if len(leaf) > 128 {
				refuses(b, api.ErrLimit)
				continue
			}
			refuses(b, api.ErrArg)
			refuses(append(b, 9), api.ErrSyntax)
		}
	}
	for _, book := range noBooks() {
		if v, e := Load(book, b); v != nil || e != api.ErrNil {
			t.Errorf("Load with no book: %v, %d", v, e)
		}
	}
}

func TestNone(t *testing.T) {
	for what, v := range nones() {
		for _, w := range []api.Wish{read(31, 1, 0, 0), write(31, 1, 0, 0, block(1)), sealOf(0, 1), {}, read(31, 0, 0, 0), read(31, -1, 0, 9)} {
			if a, e := v.Do(w); e != api.ErrNil || !alike(a, api.Answer{}) {
				t.Errorf("%s: Do: %+v, %d", what, a, e)
			}
			w.Group = 0
			if a, e := v.Do(w); e != api.ErrNil || !alike(a, api.Answer{}) {
				t.Errorf("%s: Do: %+v, %d", what, a, e)
			}
			if a, ok := v.Heard(w); ok || !alike(a, api.Answer{}) {
				t.Errorf("%s: Heard: %+v", what, a)
			}
		}
		for _, i := range []int{-1, 0, 7, 8, math.MinInt, math.MaxInt} {
			if b, e := v.Look(i); b != nil || e != api.ErrNil {
				t.Errorf("%s: Look(%d): %x, %d", what, i, b, e)
			}
		}
		is(t, what, v.Turn(), api.ErrNil)
		d, e := v.Root()
		b, f := v.Bytes()
		if d != (api.Digest{}) || e != api.ErrNil || b != nil || f != api.ErrNil {
			t.Errorf("%s: %x, %d, %x, %d", what, d, e, b, f)
		}
		if len(v.Leaves()) != 0 || len(v.Sealed()) != 0 || v.Group() != 0 || v.Epoch() != 0 {
			t.Errorf("%s: %x, %v, %d, %d", what, v.Leaves(), v.Sealed(), v.Group(), v.Epoch())
		}
	}
}

// P16.2

func TestRead(t *testing.T) {
	for _, name := range []int{31, 32, 33, 34} {
		v := made(t)
		does(t, v, write(34, 1, 0, 2, block(2)), api.Answer{})
		does(t, v, write(34, 2, 0, 7, block(7)), api.Answer{})
		want := leavesOf(map[int][]byte{2: block(2), 7: block(7), 11: told(2)})
		for i, b := range []int{2, 7, 0, 2} {
			stamp := []int{3, 300, 70000, api.MaxNumber}[i]
			does(t, v, read(name, stamp, 0, b), api.Answer{Data: want[b]})
			want[name-23] = told(stamp, want[b]...)
			has(t, "read", v, want)
		}
	}
}

func TestWrite(t *testing.T) {
	for _, name := range []int{31, 32, 33, 34} {
		v := made(t)
		want := leavesOf(nil)
		for i := range 8 {
			does(t, v, write(name, 2*i+1, 0, i, block(byte(i+1))), api.Answer{})
			want[i], want[name-23] = block(byte(i+1)), told(2*i+1)
			has(t, "wrote", v, want)
		}
		does(t, v, write(name, api.MaxNumber, 0, 0, block(0)), api.Answer{})
		want[0], want[name-23] = block(0), told(api.MaxNumber)
		has(t, "wrote", v, want)
	}
}

// TestAgain: with the last stamp the last data comes, whatever else is wished; nothing changes.
func TestAgain(t *testing.T) {
	for _, c := range []struct {
		name, stamp int
		data        []byte
	}{
		{31, 4, nil}, {32, 9, block(5)}, {34, api.MaxNumber, block(6)},
	} {
		for _, v := range []*Vault{filled(t), sealedOne(t)} {
			was := seen(v)
			for _, epoch := range []int{0, 2, 3, 4, 1 << 20} {
				for i := range 8 {
					for _, w := range []api.Wish{read(c.name, c.stamp, epoch, i), write(c.name, c.stamp, epoch, i, block(99))} {
						want := api.Answer{Data: c.data}
						does(t, v, w, want)
						if a, ok := v.Heard(w); !ok || !alike(a, want) {
							t.Errorf("Heard(%+v): %+v, %v", w, a, ok)
						}
					}
				}
			}
			if seen(v) != was {
				t.Errorf("%d: what was done was done again", c.name)
			}
		}
	}
}

func TestOlder(t *testing.T) {
	for _, c := range []struct{ name, last int }{{31, 4}, {32, 9}, {34, api.MaxNumber}} {
		for _, v := range []*Vault{filled(t), sealedOne(t)} {
			was := seen(v)
			for _, stamp := range []int{1, 2, c.last - 1} {
				for _, epoch := range []int{0, 3, 4} {
					for _, w := range []api.Wish{read(c.name, stamp, epoch, 3), write(c.name, stamp, epoch, 3, block(99))} {
						want := api.Answer{Err: api.ErrStamp}
						does(t, v, w, want)
						if a, ok := v.Heard(w); !ok || !alike(a, want) {
							t.Errorf("Heard(%+v): %+v, %v", w, a, ok)
						}
					}
				}
			}
			if seen(v) != was {
				t.Errorf("%d: an older wish was done", c.name)
			}
		}
	}
}

func TestOtherEpoch(t *testing.T) {
	v, ended := filled(t), sealedOne(t)
	was, wasEnded := seen(v), seen(ended)
	for _, epoch := range []int{0, 2, 4, 1<<20 - 1, 1 << 20} {
		for _, w := range []api.Wish{read(31, 5, epoch, 3), read(33, 1, epoch, 3), write(32, api.MaxNumber, epoch, 3, block(99)), sealOf(epoch, 1, 2, 3, 4)} {
			does(t, v, w, api.Answer{Err: api.ErrEpoch, Epoch: 3})
			does(t, ended, w, api.Answer{Err: api.ErrEpoch, Epoch: 3})
			if a, ok := v.Heard(w); ok || !alike(a, api.Answer{}) {
				t.Errorf("Heard(%+v): %+v", w, a)
			}
		}
	}
	for _, w := range []api.Wish{read(31, 5, 3, 3), read(33, 1, 3, 3), write(32, api.MaxNumber, 3, 3, block(99)), sealOf(3, 1, 2, 3, 4), sealOf(3, 5, 6, 7, 9)} {
		does(t, ended, w, api.Answer{Err: api.ErrEpoch, Epoch: 4})
	}
	if seen(v) != was || seen(ended) != wasEnded {
		t.Error("another epoch's wish was done")
	}
}

func TestSeal(t *testing.T) {
	for _, nodes := range [][]int{{1}, {28}, {1, 2, 3, 4}, {9, 12, 15, 28}, {1, 2, 3, 4, 5, 6, 7}, {22, 23, 24, 25, 26, 27, 28}} {
		v := filled(t)
		want := v.Leaves()
		does(t, v, sealOf(3, nodes...), api.Answer{})
		want[12] = last(1, 3, nodes...)
		has(t, "sealed", v, want)
		if !slices.Equal(v.Sealed(), nodes) || v.Epoch() != 3 {
			t.Errorf("%v: %v, %d", nodes, v.Sealed(), v.Epoch())
		}
	}
}

// TestLastEpoch: the last epoch of all does not end; the one ahead of it does.
func TestLastEpoch(t *testing.T) {
	v := opened(t, leavesOf(map[int][]byte{12: last(1, 1<<20-1)}))
	does(t, v, sealOf(1<<20, 1), api.Answer{Err: api.ErrEpoch, Epoch: 1<<20 - 1})
	does(t, v, sealOf(1<<20-1, 1), api.Answer{})
	does(t, v, read(31, 1, 1<<20-1, 0), api.Answer{Err: api.ErrEpoch, Epoch: 1 << 20})
	is(t, "Turn", v.Turn(), api.OK)
	was := seen(v)
	does(t, v, sealOf(1<<20-1, 1), api.Answer{Err: api.ErrEpoch, Epoch: 1 << 20})
	does(t, v, sealOf(1<<20, 1), api.Answer{Err: api.ErrLimit})
	is(t, "Turn", v.Turn(), api.ErrEpoch)
	if seen(v) != was || v.Epoch() != 1<<20 {
		t.Error("something changed")
	}
	does(t, v, read(31, 1, 1<<20, 0), api.Answer{Data: block(0)})
}

// TestPastTheLastEpoch: leaves may say that the last epoch is sealed; no vault comes behind it.
func TestPastTheLastEpoch(t *testing.T) {
	leaves := leavesOf(map[int][]byte{12: last(1, 1<<20, 1, 2, 3, 4)})
	v := opened(t, leaves)
	does(t, v, sealOf(1<<20, 1), api.Answer{Err: api.ErrEpoch, Epoch: 1<<20 + 1})
	is(t, "Turn", v.Turn(), api.ErrLimit)
	has(t, "not turned", v, leaves)
}

// TestDoRefuses: what may not be, and what is not the chunk's.
func TestDoRefuses(t *testing.T) {
	group := func(w api.Wish, n int) api.Wish {
		w.Group = n
		return w
	}
	long := write(31, 5, 3, 3, block(1))
	long.Data = append(long.Data, 1)
	withData := read(31, 5, 3, 3)
	withData.Data = block(1)
	withNext := read(31, 4, 3, 3)
	withNext.Next = []int{1}
	withClient := sealOf(3, 1, 2, 3, 4)
	withClient.Client, withClient.Stamp = 31, 9
	v := filled(t)
	was := seen(v)
	for _, w := range []api.Wish{
		{}, {Kind: api.WishNone, Group: 1, Epoch: 3}, {Kind: 6, Client: 31, Stamp: 5, Group: 1, Epoch: 3}, {Kind: -1, Client: 31, Stamp: 5, Group: 1, Epoch: 3},
		{Kind: api.WishQuery, Client: 31, Stamp: 5, Block: 1}, {Kind: api.WishReplace, Client: 34, Stamp: 5, Block: 1, Old: 1, New: 2},
		{Kind: api.WishQuery, Client: 31, Stamp: 5, Group: 1, Block: 1}, {Kind: api.WishReplace, Client: 34, Stamp: 5, Group: 1, Block: 1, Old: 1, New: 2},
		group(read(31, 5, 3, 3), 2), group(read(31, 4, 3, 3), 2), group(read(31, 5, 3, 3), 0), group(read(31, 5, 3, 3), 3), group(write(31, 5, 3, 3, block(1)), 2), group(sealOf(3, 1, 2, 3, 4), 2),
		read(30, 5, 3, 3), read(35, 5, 3, 3), read(0, 5, 3, 3), read(-1, 5, 3, 3), read(1<<32+31, 5, 3, 3), read(math.MinInt, 5, 3, 3), read(math.MaxInt, 5, 3, 3),
		read(31, 0, 3, 3), read(31, -1, 3, 3), read(31, math.MinInt, 3, 3), read(31, api.MaxNumber+1, 3, 3), read(33, 0, 3, 3),
		read(31, 5, -1, 3), read(31, 5, 1<<20+1, 3), read(31, 4, -1, 3), read(31, 4, 1<<20+1, 3), read(31, 5, 3, -1), read(31, 5, 3, 8), read(31, 4, 3, 8), read(31, 5, 3, math.MaxInt), read(31, 5, 3, math.MinInt),
		write(31, 5, 3, 3, nil), write(31, 5, 3, 3, block(1)[:15]), write(31, 5, 3, 8, block(1)), write(31, 5, 3, -1, block(1)), write(31, 4, 3, 3, nil), long, withData, withNext, withClient,
		sealOf(3), sealOf(3, 1, 2), sealOf(3, 0), sealOf(3, 29), sealOf(3, 1, 2, 3, 3), sealOf(-1, 1), sealOf(1<<20+1, 1), sealOf(3, 1, 2, 3, 4, 5, 6, 7, 8, 9, 10),
	} {
		if a, e := v.Do(w); e != api.ErrArg || !alike(a, api.Answer{}) {
			t.Errorf("Do(%+v): %+v, %d", w, a, e)
		}
		if a, ok := v.Heard(w); ok || !alike(a, api.Answer{}) {
			t.Errorf("Heard(%+v): %+v", w, a)
		}
	}
	if seen(v) != was {
		t.Error("something changed")
	}
}

// TestOfTheOtherChunk: a vault of the group 2 does what is of the group 2.
func TestOfTheOtherChunk(t *testing.T) {
	v := opened(t, leavesOf(map[int][]byte{12: last(2, 0)}))
	for _, w := range []api.Wish{read(31, 1, 0, 0), write(31, 1, 0, 0, block(1)), sealOf(0, 1)} {
		_, e := v.Do(w)
		is(t, "of the group 1", e, api.ErrArg)
		w.Group = 2
		_, e = v.Do(w)
		is(t, "of the group 2", e, api.OK)
	}
}

func TestHeardIsNotNew(t *testing.T) {
	v := filled(t)
	was := seen(v)
	for _, w := range []api.Wish{read(31, 5, 3, 0), read(32, 10, 3, 0), read(33, 1, 3, 0), write(31, 5, 3, 0, block(1)), write(33, api.MaxNumber, 3, 0, block(1)), sealOf(3, 1), sealOf(0, 1)} {
		for range 2 {
			if a, ok := v.Heard(w); ok || !alike(a, api.Answer{}) {
				t.Errorf("Heard(%+v): %+v", w, a)
			}
		}
	}
	if seen(v) != was {
		t.Error("something changed")
	}
	does(t, v, sealOf(3, 1), api.Answer{})
	if a, ok := v.Heard(sealOf(3, 1)); ok || !alike(a, api.Answer{}) {
		t.Errorf("Heard of a seal that was done: %+v", a)
	}
}

// TestNobodyWishedYet: the stamp 0 is no wish's, so nothing is older.
func TestNobodyWishedYet(t *testing.T) {
	v := made(t)
	for name := 31; name <= 34; name++ {
		if _, ok := v.Heard(read(name, 1, 0, 0)); ok {
			t.Errorf("%d has wished nothing", name)
		}
		does(t, v, read(name, 1, 0, 0), api.Answer{Data: block(0)})
	}
}

// P16.3

func TestLook(t *testing.T) {
	v := sealedOne(t)
	was := seen(v)
	for i, want := range v.Leaves()[:8] {
		if b, e := v.Look(i); e != api.OK || !bytes.Equal(b, want) {
			t.Errorf("Look(%d): %x, %d", i, b, e)
		}
	}
	for _, i := range []int{-1, 8, 9, 31, 1 << 32, -1 << 32, math.MinInt, math.MaxInt} {
		if b, e := v.Look(i); e != api.ErrBlock || b != nil {
			t.Errorf("Look(%d): %x, %d", i, b, e)
		}
	}
	if seen(v) != was {
		t.Error("something changed")
	}
}

func TestTurn(t *testing.T) {
	v := filled(t)
	want := v.Leaves()
	for epoch := 3; epoch < 9; epoch++ {
		is(t, "Turn without a seal", v.Turn(), api.ErrEpoch)
		has(t, "not turned", v, want)
		does(t, v, sealOf(epoch, 5, 6, 7, 9), api.Answer{})
		is(t, "Turn", v.Turn(), api.OK)
		want[12] = last(1, epoch+1)
		has(t, "turned", v, want)
		if v.Group() != 1 || v.Epoch() != epoch+1 || len(v.Sealed()) != 0 {
			t.Errorf("turned: %d, %d, %v", v.Group(), v.Epoch(), v.Sealed())
		}
	}
}

// P16.4

// wipe spoils bytes, and their spare room.
func wipe(b []byte) {
	b = b[:cap(b)]
	for i := range b {
		b[i] += 35
	}
}

func wipeNodes(l []int) {
	l = l[:cap(l)]
	for i := range l {
		l[i] += 100
	}
}

func TestAnswersAreNewMemory(t *testing.T) {
	v := sealedOne(t)
	was := seen(v)
	for i := range 8 {
		b, _ := v.Look(i)
		c, _ := v.Look(i)
		keep := slices.Clone(c)
		wipe(b)
		if !bytes.Equal(c, keep) {
			t.Error("two answers of Look share memory")
		}
	}
	leaves := v.Leaves()
	again := bytesOf(v.Leaves())
	for i, l := range leaves {
		rest := bytesOf(leaves[i+1:])
		wipe(l)
		if !bytes.Equal(bytesOf(leaves[i+1:]), rest) {
			t.Errorf("the leaf %d shares memory with those behind it", i)
		}
	}
	b, _ := v.Bytes()
	wipe(b)
	wipeNodes(v.Sealed())
	for _, w := range []api.Wish{read(32, 9, 3, 0), read(34, api.MaxNumber, 3, 0)} {
		a, _ := v.Do(w)
		wipe(a.Data)
		a, _ = v.Heard(w)
		wipe(a.Data)
	}
	if seen(v) != was || !bytes.Equal(bytesOf(v.Leaves()), again) {
		t.Error("what was answered was kept")
	}
}

func TestAReadsAnswerIsNewMemory(t *testing.T) {
	v := filled(t)
	a, _ := v.Do(read(33, 1, 3, 3))
	wipe(a.Data)
	does(t, v, read(33, 1, 3, 3), api.Answer{Data: block(7)})
	does(t, v, read(33, 2, 3, 3), api.Answer{Data: block(7)})
	does(t, v, write(31, 5, 3, 3, block(9)), api.Answer{})
	does(t, v, read(33, 2, 3, 3), api.Answer{Data: block(7)})
}

func TestWishesAreNotKept(t *testing.T) {
	v := filled(t)
	data := append(block(3), 1, 2, 3)
	nodes := []int{5, 6, 7, 9, 10, 11, 12}
	does(t, v, write(33, 1, 3, 5, data[:16]), api.Answer{})
	does(t, v, sealOf(3, nodes[:4]...), api.Answer{})
	if !bytes.Equal(data, append(block(3), 1, 2, 3)) || !slices.Equal(nodes, []int{5, 6, 7, 9, 10, 11, 12}) {
		t.Errorf("what was handed in changed: %x, %v", data, nodes)
	}
	was := seen(v)
	wipe(data)
	wipeNodes(nodes)
	if seen(v) != was {
		t.Error("what was handed in was kept")
	}
}

func TestLeavesAreNotKept(t *testing.T) {
	leaves := sealedOne(t).Leaves()
	b := bytesOf(leaves)
	v, w := opened(t, leaves), opened(t, leaves)
	x, e := Load(ink.New(), b)
	if e != api.OK || !bytes.Equal(bytesOf(leaves), b) {
		t.Fatalf("%d; or Open changed its leaves", e)
	}
	was, wasX := seen(v), seen(x)
	for _, l := range leaves {
		wipe(l)
	}
	wipe(b)
	clear(leaves)
	if seen(v) != was || seen(w) != was || seen(x) != wasX || was != wasX {
		t.Error("what was handed in was kept")
	}
	is(t, "Turn", v.Turn(), api.OK)
	does(t, v, write(31, 5, 4, 0, block(8)), api.Answer{})
	if seen(w) != was || seen(x) != was {
		t.Error("two vaults of the same leaves share something")
	}
}

// P16.5

// wishes are some at random, of clients whose stamps rise mostly, in the epoch under way mostly; one of no kind stands for a turn.
func wishes(r *rand.Rand, many int) []api.Wish {
	stamps := map[int]int{}
	epoch, sealed := 0, false
	var l []api.Wish
	for range many {
		name := 31 + r.Intn(4)
		stamps[name] += r.Intn(3)
		w := read(name, max(1, stamps[name]-r.Intn(2)*r.Intn(2)), max(0, epoch-r.Intn(3)/2+r.Intn(9)/8), r.Intn(8))
		switch n := r.Intn(24); {
		case n == 0 && !sealed:
			w, sealed = sealOf(epoch, 1, 2, 3, 4+r.Intn(20)), true
		case n < 4 && sealed:
			w, sealed = api.Wish{}, false
			epoch++
		case n < 14:
			w.Kind, w.Data = api.WishWrite, block(byte(r.Intn(256)))
		}
		l = append(l, w)
	}
	return l
}

// step does a wish, or turns.
func step(v *Vault, w api.Wish) (api.Answer, api.Errno) {
	if w.Kind == api.WishNone {
		return api.Answer{}, v.Turn()
	}
	return v.Do(w)
}

func TestTheSameWishesTheSameAnswers(t *testing.T) {
	for seed := range int64(12) {
		book := ink.New()
		v, _ := New(book, 1)
		w, _ := New(ink.New(), 1)
		x, _ := New(book, 1)
		for i, y := range wishes(rand.New(rand.NewSource(seed)), 200) {
			a, e := step(v, y)
			b, f := step(w, y)
			c, g := step(x, y)
			if e != api.OK || f != api.OK || g != api.OK || !alike(a, b) || !alike(a, c) || seen(v) != seen(w) || seen(v) != seen(x) {
				t.Fatalf("seed %d, %d: %+v and %+v; %d, %d, %d", seed, i, a, b, e, f, g)
			}
			if i%50 == 49 { // one goes on from its bytes
				b, _ := w.Bytes()
				if w, e = Load(ink.New(), b); e != api.OK {
					t.Fatalf("Load: %d", e)
				}
			}
		}
	}
}

func TestDoneOnce(t *testing.T) {
	for seed := range int64(30) {
		v := made(t)
		done := 0
		for _, w := range wishes(rand.New(rand.NewSource(seed)), 200) {
			a, _ := step(v, w)
			if w.Client == 0 || a.Err != api.OK {
				continue
			}
			done++
			was := seen(v)
			for range 2 {
				does(t, v, w, a)
				if b, ok := v.Heard(w); !ok || !alike(a, b) {
					t.Errorf("seed %d: Heard: %+v, %v", seed, b, ok)
				}
			}
			if seen(v) != was {
				t.Fatalf("seed %d: %+v was done twice", seed, w)
			}
		}
		if done < 40 {
			t.Errorf("seed %d: %d were done only", seed, done)
		}
	}
}

// P16.6

func TestRegisters(t *testing.T) {
	for seed := range int64(30) {
		r := rand.New(rand.NewSource(seed))
		v := made(t)
		var wrote [8][]byte
		for i := range wrote {
			wrote[i] = block(0)
		}
		epoch := 0
		for stamp := 1; stamp < 300; stamp++ {
			b, name := r.Intn(8), 31+r.Intn(4)
			switch r.Intn(9) {
			case 0, 1, 2:
				data := make([]byte, 16)
				r.Read(data)
				does(t, v, write(name, stamp, epoch, b, data), api.Answer{})
				wrote[b] = data
			case 3:
				does(t, v, write(name, stamp, epoch+1, b, block(99)), api.Answer{Err: api.ErrEpoch, Epoch: epoch})
			case 4:
				does(t, v, sealOf(epoch, 1, 2, 3, 4), api.Answer{})
				epoch++
				does(t, v, write(name, stamp, epoch-1, b, block(99)), api.Answer{Err: api.ErrEpoch, Epoch: epoch})
				is(t, "Turn", v.Turn(), api.OK)
			default:
				does(t, v, read(name, stamp, epoch, b), api.Answer{Data: wrote[b]})
			}
		}
	}
}

// P16.7

func TestBehindASeal(t *testing.T) {
	for seed := range int64(30) {
		r := rand.New(rand.NewSource(seed))
		v := made(t)
		all := wishes(r, 150)
		for _, w := range all {
			step(v, w)
		}
		epoch := v.Epoch()
		if len(v.Sealed()) == 0 {
			does(t, v, sealOf(epoch, 2, 3, 4, 5), api.Answer{})
		}
		was, nodes, leaves := seen(v), v.Sealed(), v.Leaves()
		for _, w := range append(wishes(r, 150), all...) {
			if w.Kind == api.WishNone {
				continue
			}
			w.Stamp *= 1000 // it is new
			v.Do(w)
			w.Epoch = epoch
			does(t, v, w, api.Answer{Err: api.ErrEpoch, Epoch: epoch + 1})
		}
		if seen(v) != was || !slices.Equal(v.Sealed(), nodes) {
			t.Fatalf("seed %d: something was done behind a seal", seed)
		}
		is(t, "Turn", v.Turn(), api.OK)
		leaves[12] = last(1, epoch+1)
		has(t, "turned", v, leaves)
		does(t, v, write(31, 1<<30, epoch+1, 0, block(9)), api.Answer{})
	}
}

// P16.8

func TestLeavesMakeItAgain(t *testing.T) {
	for seed := range int64(30) {
		v := made(t)
		for i, w := range wishes(rand.New(rand.NewSource(seed)), 200) {
			step(v, w)
			if i%11 != 0 {
				continue
			}
			b, _ := v.Bytes()
			x, e := Load(ink.New(), b)
			if e != api.OK || seen(x) != seen(v) {
				t.Fatalf("seed %d: Load: %d", seed, e)
			}
			if y := opened(t, v.Leaves()); seen(y) != seen(v) {
				t.Fatalf("seed %d: Open", seed)
			}
		}
	}
}

func TestRootsTellLeavesApart(t *testing.T) {
	book := ink.New()
	by := map[api.Digest]string{}
	many := 0
	note := func(leaves [][]byte) {
		v, e := Open(book, leaves)
		if e != api.OK {
			t.Fatalf("Open(%x): %d", leaves, e)
		}
		d, _ := v.Root()
		b, _ := v.Bytes()
		if was, is := by[d]; is && was != string(b) {
			t.Errorf("%x and %x have one root", was, b)
		}
		by[d] = string(b)
		many++
	}
	good := goodLeaves()
	for i := range 13 {
		for _, leaf := range good[i] {
			note(leavesOf(map[int][]byte{i: leaf}))
			for j := i + 1; j < 13; j++ {
				for _, other := range good[j] {
					note(leavesOf(map[int][]byte{i: leaf, j: other}))
				}
			}
		}
	}
	seen := map[string]bool{}
	for _, b := range by {
		seen[b] = true
	}
	if len(seen) != len(by) || len(by) < 5000 || many <= len(by) || book.Clash() {
		t.Errorf("%d roots, %d vaults, %d times", len(by), len(seen), many)
	}
}

// TestOneWayOnly: bytes that are taken are those that are told; spoiled ones mostly aren't.
func TestOneWayOnly(t *testing.T) {
	r := rand.New(rand.NewSource(16))
	book := ink.New()
	got := map[api.Errno]int{}
	for _, leaves := range [][][]byte{filled(t).Leaves(), sealedOne(t).Leaves(), leavesOf(nil)} {
		whole := bytesOf(leaves)
		for range 8000 {
			b := slices.Clone(whole)
			for range 1 + r.Intn(3) {
				switch i := r.Intn(len(b)); r.Intn(6) {
				case 0:
					b = slices.Delete(b, i, i+1)
				case 1:
					b = slices.Insert(b, i, byte(r.Intn(3)))
				default:
					b[i] = byte(r.Intn(30))
				}
			}
			v, e := Load(book, b)
			got[e]++
			if e != api.OK {
				continue
			}
			if c, e := v.Bytes(); e != api.OK || !bytes.Equal(b, c) {
				t.Fatalf("%x is told as %x, %d", b, c, e)
			}
		}
	}
	for _, e := range []api.Errno{api.OK, api.ErrArg, api.ErrTrunc, api.ErrSyntax, api.ErrLimit} {
		if got[e] < 20 {
			t.Errorf("%d was told %d times only", e, got[e])
		}
	}
}

func FuzzLoad(f *testing.F) {
	f.Add(bytesOf(leavesOf(nil)))
	f.Add(bytesOf(leavesOf(map[int][]byte{3: block(7), 9: told(9, block(5)...), 12: last(2, 3, 5, 6, 7, 9)})))
	f.Fuzz(func(t *testing.T, b []byte) {
		v, e := Load(ink.New(), b)
		if e != api.OK {
			return
		}
		if c, e := v.Bytes(); e != api.OK || !bytes.Equal(b, c) {
			t.Errorf("%x is told as %x, %d", b, c, e)
		}
	})
}

// The chapter's examples.

func TestExamples(t *testing.T) {
	v := made(t)
	seven := block(7)
	does(t, v, write(31, 1, 0, 3, seven), api.Answer{})
	does(t, v, read(32, 5, 0, 3), api.Answer{Data: seven})
	does(t, v, read(32, 5, 0, 0), api.Answer{Data: seven})
	does(t, v, read(32, 4, 0, 0), api.Answer{Err: api.ErrStamp})
	does(t, v, read(31, 2, 1, 3), api.Answer{Err: api.ErrEpoch, Epoch: 0})
	does(t, v, sealOf(0, 1, 2, 3, 4), api.Answer{})
	does(t, v, read(31, 2, 0, 3), api.Answer{Err: api.ErrEpoch, Epoch: 1})
	is(t, "Turn", v.Turn(), api.OK)
	does(t, v, read(31, 2, 1, 3), api.Answer{Data: seven})
}
