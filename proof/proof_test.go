package proof

import (
	"crypto/sha256"
	"fmt"
	"math"
	"math/rand"
	"slices"
	"sync"
	"testing"

	"bastide/api"
	"bastide/ink"
	"bastide/tree"
)

// longest is how long a leaf may be.
const longest = 65535

// sizes are numbers of leaves: all small ones, and those at which a level is full, or another one begins.
func sizes() []int {
	var out []int
	for n := 1; n <= 21; n++ {
		out = append(out, n)
	}
	return append(out, 63, 64, 65, 66, 79, 80, 81, 255, 256, 257, 1021, 1023, 1024)
}

// noCounts are numbers of leaves that no tree has.
func noCounts() []int {
	return []int{math.MinInt, -1 << 32, -1024, -1, 0, 1025, 1026, 4096, 1<<32 + 1, 1<<32 + 5, math.MaxInt}
}

// outside are numbers that are not from 0 to below n; some of them are within, where a product or a half of the bits is taken for the whole.
func outside(n int) []int {
	return []int{math.MinInt, math.MinInt + 1, -1 << 32, -1<<32 + 1, -n - 1, -n, -4, -3, -1, n, n + 1, n + 3, n + 4, 4 * n, 1024 + n, 1 << 32, 1<<32 + 1, 1 << 61, 1 << 62, 1<<62 + 1, math.MaxInt}
}

// noBooks are books that are none.
func noBooks() []*ink.Book {
	return []*ink.Book{nil, {}}
}

// noTrees are trees that are none.
func noTrees() []*tree.Tree {
	return []*tree.Tree{nil, {}}
}

// some are leaves, no two of which are alike, of many lengths.
func some(r *rand.Rand, many int) [][]byte {
	out := make([][]byte, many)
	for i := range out {
		out[i] = make([]byte, r.Intn(70))
		r.Read(out[i])
		out[i] = append(out[i], byte(i), byte(i>>8))
	}
	return out
}

// leafOf and nodeOf are digests by the words of the chapter 9.
func leafOf(leaf []byte) api.Digest {
	return sha256.Sum256(append([]byte{0}, leaf...))
}

func nodeOf(children []api.Digest) api.Digest {
	in := []byte{1}
	for _, d := range children {
		in = append(in, d[:]...)
	}
	return sha256.Sum256(in)
}

// model are a tree's levels, each cut into the fours that are made into one.
func model(leaves [][]byte) [][][]api.Digest {
	var low []api.Digest
	for _, l := range leaves {
		low = append(low, leafOf(l))
	}
	var out [][][]api.Digest
	for {
		var fours [][]api.Digest
		for i, d := range low {
			if i%4 == 0 {
				fours = append(fours, nil)
			}
			fours[i/4] = append(fours[i/4], d)
		}
		out = append(out, fours)
		if len(low) == 1 {
			return out
		}
		low = nil
		for _, four := range fours {
			low = append(low, nodeOf(four))
		}
	}
}

func rootOf(levels [][][]api.Digest) api.Digest {
	return levels[len(levels)-1][0][0]
}

// proofOf is a leaf's proof by the chapter's words.
func proofOf(levels [][][]api.Digest, leaf int) [][]api.Digest {
	var out [][]api.Digest
	for _, fours := range levels[:len(levels)-1] {
		leaf /= 4
		out = append(out, slices.Clone(fours[leaf]))
	}
	return out
}

// fits tells by the chapter's words whether a proof fits.
func fits(root api.Digest, leaves, leaf int, bytes []byte, proof [][]api.Digest) bool {
	d := leafOf(bytes)
	for leaves > 1 {
		if len(proof) == 0 {
			return false
		}
		first := leaf / 4 * 4
		many := 0
		for i := first; i < first+4 && i < leaves; i++ {
			many++
		}
		if len(proof[0]) != many || proof[0][leaf-first] != d {
			return false
		}
		d = nodeOf(proof[0])
		proof = proof[1:]
		leaf /= 4
		leaves = (leaves + 3) / 4
	}
	return len(proof) == 0 && d == root
}

func equal(x, y [][]api.Digest) bool {
	return slices.EqualFunc(x, y, slices.Equal)
}

func deep(proof [][]api.Digest) [][]api.Digest {
	out := make([][]api.Digest, len(proof))
	for i, l := range proof {
		out[i] = slices.Clone(l)
	}
	return out
}

// made is a tree of leaves, set in order.
func made(t *testing.T, b *ink.Book, leaves [][]byte) *tree.Tree {
	t.Helper()
	x, e := tree.New(b, len(leaves))
	if e != api.OK {
		t.Fatalf("New of %d: %d", len(leaves), e)
	}
	for i, l := range leaves {
		if e := x.Set(i, l); e != api.OK {
			t.Fatalf("Set of %d of %d: %d", i, len(leaves), e)
		}
	}
	return x
}

// still fails unless a book has as many inputs, and was asked as often, as is said.
func still(t *testing.T, b *ink.Book, many, asked int) {
	t.Helper()
	if b.Len() != many || b.Asked() != asked {
		t.Errorf("%d inputs, %d askings, not %d, %d", b.Len(), b.Asked(), many, asked)
	}
}

// noted fails unless a book has just these inputs.
func noted(t *testing.T, b *ink.Book, inputs ...[]byte) {
	t.Helper()
	unlike := map[string]bool{}
	for _, in := range inputs {
		unlike[string(in)] = true
	}
	many := b.Len()
	for in := range unlike {
		b.Of([]byte(in))
	}
	if many != len(unlike) || b.Len() != many {
		t.Errorf("%d inputs are noted, %d of %d were not", many, b.Len()-many, len(unlike))
	}
}

// P10.1

func TestBuild(t *testing.T) {
	r := rand.New(rand.NewSource(1))
	for _, n := range sizes() {
		b := ink.New()
		leaves := some(r, n)
		x := made(t, b, leaves)
		levels := model(leaves)
		many, asked := b.Len(), b.Asked()
		for i := range n {
			p, e := Build(x, i)
			if e != api.OK || !equal(p, proofOf(levels, i)) {
				t.Fatalf("%d of %d: %d lists, %d", i, n, len(p), e)
			}
		}
		still(t, b, many, asked)
	}
}

// A proof is of the tree as it is when it is built.
func TestBuildBehindSet(t *testing.T) {
	r := rand.New(rand.NewSource(2))
	for _, n := range []int{1, 4, 5, 17, 66} {
		leaves := make([][]byte, n)
		x, _ := tree.New(ink.New(), n)
		for range 30 {
			i := r.Intn(n)
			leaves[i] = some(r, 1)[0]
			x.Set(i, leaves[i])
			j := r.Intn(n)
			if p, e := Build(x, j); e != api.OK || !equal(p, proofOf(model(leaves), j)) {
				t.Fatalf("%d of %d: %d", j, n, e)
			}
		}
	}
}

func TestBuildRefuses(t *testing.T) {
	for _, n := range sizes() {
		b := ink.New()
		x, _ := tree.New(b, n)
		many, asked := b.Len(), b.Asked()
		for _, i := range outside(n) {
			if p, e := Build(x, i); len(p) != 0 || e != api.ErrRange {
				t.Errorf("%d of %d: %v, %d", i, n, p, e)
			}
		}
		still(t, b, many, asked)
	}
	for _, x := range noTrees() {
		for _, i := range append(outside(1), 0, 1, 5) {
			if p, e := Build(x, i); len(p) != 0 || e != api.ErrNil {
				t.Errorf("%d: %v, %d", i, p, e)
			}
		}
	}
}

func TestParts(t *testing.T) {
	r := rand.New(rand.NewSource(3))
	for _, n := range sizes() {
		b := ink.New()
		leaves := some(r, n)
		x := made(t, b, leaves)
		levels := model(leaves)
		many, asked := b.Len(), b.Asked()
		for level := 1; level < len(levels); level++ {
			for place, want := range levels[level-1] {
				if p, e := Parts(x, level, place); e != api.OK || !slices.Equal(p, want) {
					t.Errorf("%d, %d of %d: %d digests, %d", level, place, n, len(p), e)
				}
			}
		}
		still(t, b, many, asked)
	}
}

func TestPartsRefuses(t *testing.T) {
	for _, n := range sizes() {
		b := ink.New()
		x, _ := tree.New(b, n)
		levels := model(make([][]byte, n))
		many, asked := b.Len(), b.Asked()
		for _, level := range append(outside(x.Depth()), 0) {
			for _, place := range []int{math.MinInt, -1, 0, 1, n, math.MaxInt} {
				if p, e := Parts(x, level, place); len(p) != 0 || e != api.ErrRange {
					t.Errorf("%d, %d of %d: %v, %d", level, place, n, p, e)
				}
			}
		}
		for level := 1; level < x.Depth(); level++ {
			for _, place := range outside(len(levels[level-1])) {
				if p, e := Parts(x, level, place); len(p) != 0 || e != api.ErrRange {
					t.Errorf("%d, %d of %d: %v, %d", level, place, n, p, e)
				}
			}
		}
		still(t, b, many, asked)
	}
	for _, x := range noTrees() {
		for _, level := range []int{math.MinInt, -1, 0, 1, 2, math.MaxInt} {
			for _, place := range []int{math.MinInt, -1, 0, 1, math.MaxInt} {
				if p, e := Parts(x, level, place); len(p) != 0 || e != api.ErrNil {
					t.Errorf("%d, %d: %v, %d", level, place, p, e)
				}
			}
		}
	}
}

// P10.2

func TestCheck(t *testing.T) {
	r := rand.New(rand.NewSource(4))
	for _, n := range sizes() {
		leaves := some(r, n)
		levels := model(leaves)
		b := ink.New()
		for i, l := range leaves {
			if e := Check(b, rootOf(levels), n, i, l, proofOf(levels, i)); e != api.OK {
				t.Fatalf("%d of %d: %d", i, n, e)
			}
		}
	}
}

// All that is digested is noted: the leaf, and each list.
func TestCheckNotes(t *testing.T) {
	leaves := some(rand.New(rand.NewSource(5)), 66)
	levels := model(leaves)
	for _, i := range []int{0, 7, 64, 65} {
		b := ink.New()
		p := proofOf(levels, i)
		if e := Check(b, rootOf(levels), 66, i, leaves[i], p); e != api.OK {
			t.Fatalf("%d: %d", i, e)
		}
		still(t, b, 1+len(p), 1+len(p))
		in := [][]byte{append([]byte{0}, leaves[i]...)}
		for _, list := range p {
			node := []byte{1}
			for _, d := range list {
				node = append(node, d[:]...)
			}
			in = append(in, node)
		}
		noted(t, b, in...)
	}
}

func TestCheckEmptyAndLongLeaves(t *testing.T) {
	b := ink.New()
	for _, n := range []int{1, 4, 5, 17} {
		leaves := make([][]byte, n)
		leaves[n-1] = make([]byte, longest)
		levels := model(leaves)
		for i, l := range leaves {
			if e := Check(b, rootOf(levels), n, i, l, proofOf(levels, i)); e != api.OK {
				t.Errorf("%d of %d: %d", i, n, e)
			}
			if e := Check(b, rootOf(levels), n, i, append([]byte{}, l...), proofOf(levels, i)); e != api.OK {
				t.Errorf("%d of %d: %d", i, n, e)
			}
		}
	}
	if e := Check(b, leafOf(nil), 1, 0, nil, [][]api.Digest{}); e != api.OK {
		t.Errorf("%d", e)
	}
}

// Each error stands ahead of those behind it, whatever else is wrong.
func TestCheckRefuses(t *testing.T) {
	b := ink.New()
	long := make([]byte, longest+1)
	leaf := []byte{7}
	books := append(noBooks(), b)
	proofs := [][][]api.Digest{nil, {}, {{}}, {nil, nil}, {{leafOf(leaf)}}, {{leafOf(leaf), {}}}, make([][]api.Digest, 2000)}
	for _, p := range proofs {
		for _, k := range books {
			for _, n := range noCounts() {
				for _, i := range []int{math.MinInt, -1, 0, 1, n, math.MaxInt} {
					if e, f := Check(k, leafOf(leaf), n, i, leaf, p), Check(k, api.Digest{}, n, i, long, p); e != api.ErrArg || f != api.ErrArg {
						t.Errorf("%d of %d: %d, %d", i, n, e, f)
					}
				}
			}
			for _, n := range []int{1, 2, 5, 1023, 1024} {
				for _, i := range outside(n) {
					if e, f := Check(k, leafOf(leaf), n, i, leaf, p), Check(k, api.Digest{}, n, i, long, p); e != api.ErrRange || f != api.ErrRange {
						t.Errorf("%d of %d: %d, %d", i, n, e, f)
					}
				}
				for _, i := range []int{0, n / 2, n - 1} {
					if e := Check(k, leafOf(leaf), n, i, long, p); e != api.ErrLimit {
						t.Errorf("%d of %d: %d", i, n, e)
					}
				}
			}
		}
		for _, k := range noBooks() {
			for _, n := range []int{1, 2, 5, 1024} {
				if e := Check(k, leafOf(leaf), n, n-1, leaf, p); e != api.ErrNil {
					t.Errorf("%d: %d", n, e)
				}
			}
		}
	}
	still(t, b, 0, 0)
}

// shapes are proofs that have not the lists, or not the digests, that there are.
func shapes(p [][]api.Digest) [][][]api.Digest {
	out := [][][]api.Digest{
		append(deep(p), nil), append(deep(p), []api.Digest{}), append(deep(p), []api.Digest{{}}),
		append([][]api.Digest{nil}, deep(p)...), append(deep(p), make([][]api.Digest, 1000)...),
	}
	if len(p) == 0 {
		return out
	}
	last := p[len(p)-1]
	out = append(out, nil, deep(p)[1:], deep(p)[:len(p)-1], append(deep(p), []api.Digest{nodeOf(last)}), append(deep(p), last))
	for n := range p {
		for i := range p[n] {
			fewer := deep(p)
			fewer[n] = slices.Delete(fewer[n], i, i+1)
			out = append(out, fewer)
		}
		for _, change := range []func(l []api.Digest) []api.Digest{
			func(l []api.Digest) []api.Digest { return nil },
			func(l []api.Digest) []api.Digest { return append(l, api.Digest{}) },
			func(l []api.Digest) []api.Digest { return append([]api.Digest{{}}, l...) },
			func(l []api.Digest) []api.Digest { return append(l, l...) },
			func(l []api.Digest) []api.Digest { return slices.Repeat(l, 4) },
			func(l []api.Digest) []api.Digest { return append(l, make([]api.Digest, 5000)...) },
		} {
			other := deep(p)
			other[n] = change(other[n])
			out = append(out, other)
		}
		out = append(out, slices.Insert(deep(p), n, slices.Clone(p[n])), slices.Insert(deep(p), n, nil))
	}
	return out
}

func TestCheckShapes(t *testing.T) {
	r := rand.New(rand.NewSource(6))
	for _, n := range []int{1, 2, 3, 4, 5, 6, 8, 16, 17, 21, 64, 65, 1024} {
		leaves := some(r, n)
		levels := model(leaves)
		root := rootOf(levels)
		b := ink.New()
		for _, i := range []int{0, n / 2, n - 1} {
			for k, p := range shapes(proofOf(levels, i)) {
				many := b.Len()
				if e := Check(b, root, n, i, leaves[i], p); e != api.ErrProof {
					t.Errorf("%d of %d, the shape %d: %d", i, n, k, e)
				}
				if b.Len() > many+1 {
					t.Errorf("%d of %d, the shape %d: its lists are noted", i, n, k)
				}
			}
			if e := Check(b, root, n, i, leaves[i], proofOf(levels, i)); e != api.OK {
				t.Errorf("%d of %d: %d", i, n, e)
			}
		}
	}
}

// Each bit of a proof, of the root and of the bytes counts.
func TestCheckEachBit(t *testing.T) {
	b := ink.New()
	for _, n := range []int{1, 4, 6, 21} {
		leaves := some(rand.New(rand.NewSource(7)), n)
		levels := model(leaves)
		root := rootOf(levels)
		i := n - 1
		p := proofOf(levels, i)
		refused := func(root api.Digest, bytes []byte, p [][]api.Digest, what string, bit int) {
			if e := Check(b, root, n, i, bytes, p); e != api.ErrProof {
				t.Errorf("%d: the bit %d of %s does not count: %d", n, bit, what, e)
			}
		}
		for bit := range 256 {
			turned := root
			turned[bit/8] ^= 1 << (bit % 8)
			refused(turned, leaves[i], p, "the root", bit)
			for l := range p {
				for j := range p[l] {
					other := deep(p)
					other[l][j][bit/8] ^= 1 << (bit % 8)
					refused(root, leaves[i], other, fmt.Sprint("the digest ", j, " of the list ", l), bit)
				}
			}
		}
		for bit := range 8 * len(leaves[i]) {
			turned := slices.Clone(leaves[i])
			turned[bit/8] ^= 1 << (bit % 8)
			refused(root, turned, p, "the bytes", bit)
		}
		refused(root, nil, p, "no bytes", 0)
		refused(root, append(slices.Clone(leaves[i]), 0), p, "the bytes and one", 0)
		refused(root, leaves[i][:len(leaves[i])-1], p, "the bytes but one", 0)
		refused(api.Digest{}, leaves[i], p, "no root", 0)
	}
}

// Whatever is taken for another one: it fits just if the chapter's words say so.
func TestCheckOthers(t *testing.T) {
	counts := []int{1, 2, 3, 4, 5, 6, 7, 8, 12, 13, 16, 17, 20, 21, 32}
	b := ink.New()
	fit := 0
	for _, n := range []int{1, 2, 4, 5, 6, 8, 16, 17, 21} {
		leaves := some(rand.New(rand.NewSource(8)), n)
		levels := model(leaves)
		root := rootOf(levels)
		for i, l := range leaves {
			p := proofOf(levels, i)
			for _, m := range counts {
				for j := range m {
					want := api.ErrProof
					if fits(root, m, j, l, p) {
						want, fit = api.OK, fit+1
					}
					if e := Check(b, root, m, j, l, p); e != want {
						t.Errorf("%d of %d, as %d of %d: %d, not %d", i, n, j, m, e, want)
					}
				}
			}
			for j := range leaves {
				if e := Check(b, root, n, i, l, proofOf(levels, j)); (e == api.OK) != equal(proofOf(levels, j), p) {
					t.Errorf("%d of %d by the proof of %d: %d", i, n, j, e)
				}
			}
		}
	}
	if fit == 0 {
		t.Error("nothing fits")
	}
}

// Proofs that random doings have made of good ones.
func TestCheckRandom(t *testing.T) {
	r := rand.New(rand.NewSource(9))
	b := ink.New()
	seen := map[api.Errno]int{}
	for range 4000 {
		n := 1 + r.Intn(40)
		leaves := make([][]byte, n)
		for i := range leaves {
			leaves[i] = []byte{byte(r.Intn(3))} // so that some are alike
		}
		levels := model(leaves)
		i := r.Intn(n)
		p := proofOf(levels, i)
		root, m, leaf := rootOf(levels), n, leaves[i]
		for range r.Intn(3) {
			switch r.Intn(7) {
			case 0:
				i = r.Intn(n)
			case 1:
				m = max(i+1, n+r.Intn(5)-2)
			case 2:
				leaf = leaves[r.Intn(n)]
			case 3:
				p = proofOf(levels, r.Intn(n))
			case 4:
				if len(p) > 0 {
					l := p[r.Intn(len(p))]
					if x, y := r.Intn(4), r.Intn(4); max(x, y) < len(l) {
						l[x], l[y] = l[y], l[x]
					}
				}
			case 5:
				if len(p) > 1 {
					x, y := r.Intn(len(p)), r.Intn(len(p))
					p[x], p[y] = p[y], p[x]
				}
			case 6:
				if len(p) > 0 {
					root = nodeOf(p[r.Intn(len(p))])
				}
			}
		}
		want := api.ErrProof
		if fits(root, m, i, leaf, p) {
			want = api.OK
		}
		seen[want]++
		if e := Check(b, root, m, i, leaf, p); e != want {
			t.Fatalf("%d of %d: %d, not %d", i, m, e, want)
		}
	}
	if seen[api.OK] < 500 || seen[api.ErrProof] < 500 {
		t.Errorf("%v", seen)
	}
}

// P10.3

func TestFits(t *testing.T) {
	children := []api.Digest{{1}, {}, {31: 2}, {9, 8, 7}}
	for n := 1; n <= 4; n++ {
		b := ink.New()
		d := nodeOf(children[:n])
		if e := Fits(b, d, children[:n]); e != api.OK {
			t.Errorf("%d: %d", n, e)
		}
		still(t, b, 1, 1)
		for bit := range 256 {
			other := d
			other[bit/8] ^= 1 << (bit % 8)
			if e := Fits(b, other, children[:n]); e != api.ErrProof {
				t.Errorf("%d, the bit %d: %d", n, bit, e)
			}
		}
		for m := 1; m <= 4; m++ {
			if e := Fits(b, d, children[4-m:]); e != api.ErrProof && (n != 4 || m != 4) {
				t.Errorf("%d, %d: %d", n, m, e)
			}
		}
		if e := Fits(b, api.Digest{}, children[:n]); e != api.ErrProof {
			t.Errorf("%d: %d", n, e)
		}
		if e := Fits(b, children[0], children[:1]); e != api.ErrProof {
			t.Errorf("%d", e)
		}
	}
}

func TestFitsRefuses(t *testing.T) {
	b := ink.New()
	books := append(noBooks(), b)
	for _, n := range []int{0, 5, 6, 8, 1024} {
		children := make([]api.Digest, n)
		for _, d := range []api.Digest{{}, {1}, nodeOf(children)} {
			for _, k := range books {
				if e := Fits(k, d, children); e != api.ErrArg {
					t.Errorf("%d: %d", n, e)
				}
			}
		}
	}
	for _, k := range books {
		if e := Fits(k, api.Digest{}, nil); e != api.ErrArg {
			t.Errorf("%d", e)
		}
	}
	for n := 1; n <= 4; n++ {
		children := make([]api.Digest, n)
		for _, d := range []api.Digest{{}, {1}, nodeOf(children)} {
			for _, k := range noBooks() {
				if e := Fits(k, d, children); e != api.ErrNil {
					t.Errorf("%d: %d", n, e)
				}
			}
		}
	}
	still(t, b, 0, 0)
}

func TestLeafFits(t *testing.T) {
	for _, n := range []int{0, 1, 2, 33, 55, 64, 1000, longest} {
		b := ink.New()
		leaf := make([]byte, n)
		d := leafOf(leaf)
		if e := LeafFits(b, d, leaf); e != api.OK {
			t.Errorf("%d: %d", n, e)
		}
		still(t, b, 1, 1)
		for bit := range 256 {
			other := d
			other[bit/8] ^= 1 << (bit % 8)
			if e := LeafFits(b, other, leaf); e != api.ErrProof {
				t.Errorf("%d, the bit %d: %d", n, bit, e)
			}
		}
		for _, other := range []api.Digest{{}, sha256.Sum256(leaf), sha256.Sum256(append([]byte{1}, leaf...))} {
			if e := LeafFits(b, other, leaf); e != api.ErrProof {
				t.Errorf("%d: %d", n, e)
			}
		}
		if n > 0 {
			if e, f := LeafFits(b, d, leaf[1:]), LeafFits(b, d, append([]byte{1}, leaf[1:]...)); e != api.ErrProof || f != api.ErrProof {
				t.Errorf("%d: %d, %d", n, e, f)
			}
		}
	}
	if e := LeafFits(ink.New(), leafOf(nil), nil); e != api.OK {
		t.Errorf("%d", e)
	}
}

func TestLeafFitsRefuses(t *testing.T) {
	b := ink.New()
	for _, n := range []int{longest + 1, longest + 2, 1 << 20} {
		leaf := make([]byte, n)
		for _, d := range []api.Digest{{}, leafOf(leaf)} {
			for _, k := range append(noBooks(), b) {
				if e := LeafFits(k, d, leaf); e != api.ErrLimit {
					t.Errorf("%d: %d", n, e)
				}
			}
		}
	}
	for _, n := range []int{0, 1, longest} {
		leaf := make([]byte, n)
		for _, d := range []api.Digest{{}, leafOf(leaf)} {
			for _, k := range noBooks() {
				if e := LeafFits(k, d, leaf); e != api.ErrNil {
					t.Errorf("%d: %d", n, e)
				}
			}
		}
	}
	still(t, b, 0, 0)
}

// P10.4

// spare is a copy with room behind it that holds something.
func spare[T any](in []T, fill T) []T {
	out := append(slices.Clone(in), fill, fill, fill)
	return out[:len(in):len(out)]
}

// spared fails unless a list and its spare room are as they were.
func spared[T comparable](t *testing.T, got, was []T, fill T) {
	t.Helper()
	if !slices.Equal(got, was) || !slices.Equal(got[len(got):cap(got)], []T{fill, fill, fill}) {
		t.Errorf("what was handed in was changed: %v", got[:cap(got)])
	}
}

func TestOnlyRead(t *testing.T) {
	b := ink.New()
	for _, n := range []int{1, 2, 5, 6, 21} {
		leaves := some(rand.New(rand.NewSource(10)), n)
		levels := model(leaves)
		for i := range n {
			want := proofOf(levels, i)
			for _, root := range []api.Digest{rootOf(levels), {}} {
				leaf := spare(leaves[i], 99)
				p := make([][]api.Digest, len(want))
				for l := range want {
					p[l] = spare(want[l], api.Digest{8})
				}
				all := spare(p, []api.Digest{{9}})
				Check(b, root, n, i, leaf, all)
				LeafFits(b, root, leaf)
				spared(t, leaf, leaves[i], 99)
				for l := range want {
					Fits(b, root, p[l])
					spared(t, all[l], want[l], api.Digest{8})
					if &all[l][0] != &p[l][0] {
						t.Errorf("another list stands at %d", l)
					}
				}
				for _, l := range all[len(all):cap(all)] {
					if !slices.Equal(l, []api.Digest{{9}}) {
						t.Error("the spare room was changed")
					}
				}
			}
		}
	}
}

// Who asks changes no tree.
func TestTreeOnlyRead(t *testing.T) {
	for _, n := range []int{1, 4, 5, 17, 66} {
		leaves := some(rand.New(rand.NewSource(11)), n)
		x := made(t, ink.New(), leaves)
		for i := range n {
			p, _ := Build(x, i)
			for _, l := range p {
				clear(l[:cap(l)])
			}
			for level := range x.Depth() {
				l, _ := Parts(x, level, i)
				clear(l[:cap(l)])
			}
		}
		for level, fours := range model(leaves) {
			if l, e := x.Level(level); e != api.OK || !slices.Equal(l, slices.Concat(fours...)) {
				t.Errorf("%d: the level %d is another one", n, level)
			}
		}
	}
}

// What was handed in may change behind the call: nothing of it is kept.
func TestNotKept(t *testing.T) {
	b := ink.New()
	leaves := some(rand.New(rand.NewSource(12)), 6)
	levels := model(leaves)
	root := rootOf(levels)
	p := proofOf(levels, 4)
	leaf := slices.Clone(leaves[4])
	if e := Check(b, root, 6, 4, leaf, p); e != api.OK {
		t.Fatal(e)
	}
	many := b.Len()
	clear(leaf)
	for _, l := range p {
		clear(l)
	}
	clear(p)
	if e := Check(b, root, 6, 4, leaves[4], proofOf(levels, 4)); e != api.OK || b.Len() != many {
		t.Errorf("%d, %d inputs, not %d", e, b.Len(), many)
	}
}

func TestNewMemory(t *testing.T) {
	for _, n := range []int{4, 6, 17, 66} {
		leaves := some(rand.New(rand.NewSource(13)), n)
		levels := model(leaves)
		x := made(t, ink.New(), leaves)
		for i := range n {
			one, _ := Build(x, i)
			two, _ := Build(x, i)
			for l := range one {
				one[l] = append(one[l], api.Digest{1}, api.Digest{2}, api.Digest{3}, api.Digest{4})
				clear(one[l])
				if !equal(one[l+1:], proofOf(levels, i)[l+1:]) {
					t.Errorf("%d of %d: the lists of a proof share memory", i, n)
				}
			}
			clear(one[:cap(one)])
			if !equal(two, proofOf(levels, i)) {
				t.Errorf("%d of %d: two proofs share memory", i, n)
			}
		}
		for level := 1; level < x.Depth(); level++ {
			for place, want := range levels[level-1] {
				one, _ := Parts(x, level, place)
				two, _ := Parts(x, level, place)
				clear(one[:cap(one)])
				if !slices.Equal(two, want) {
					t.Errorf("%d, %d of %d: two answers share memory", level, place, n)
				}
			}
		}
	}
}

// What was answered stays as it is when the tree changes.
func TestAnswersStay(t *testing.T) {
	leaves := some(rand.New(rand.NewSource(14)), 21)
	levels := model(leaves)
	x := made(t, ink.New(), leaves)
	p, _ := Build(x, 17)
	parts, _ := Parts(x, 1, 4)
	for i := range leaves {
		x.Set(i, []byte("other"))
	}
	if !equal(p, proofOf(levels, 17)) || !slices.Equal(parts, levels[0][4]) {
		t.Error("an answer changed by Set")
	}
}

// P10.5

func TestWhatIsBuiltFits(t *testing.T) {
	r := rand.New(rand.NewSource(15))
	for _, n := range sizes() {
		b := ink.New()
		leaves := some(r, n)
		x := made(t, b, leaves)
		root, _ := x.Root()
		for i, l := range leaves {
			p, _ := Build(x, i)
			if e := Check(b, root, n, i, l, p); e != api.OK {
				t.Errorf("%d of %d: %d", i, n, e)
			}
			if e := Check(b, root, n, i, leaves[(i+1)%n], p); n > 1 && e != api.ErrProof {
				t.Errorf("%d of %d: %d", i, n, e)
			}
		}
	}
}

// What a liar would say: nodes as leaves, leaves as nodes, parts of a tree as the tree.
func TestLiars(t *testing.T) {
	b := ink.New()
	leaves := some(rand.New(rand.NewSource(16)), 21)
	levels := model(leaves)
	root := rootOf(levels)
	raw := func(children []api.Digest) []byte {
		var out []byte
		for _, d := range children {
			out = append(out, d[:]...)
		}
		return out
	}
	for level := range levels[:len(levels)-1] {
		fours := levels[level]
		for place, four := range fours {
			if len(fours) == 1 {
				continue
			}
			above := levels[level+1:]
			for _, in := range [][]byte{raw(four), append([]byte{1}, raw(four)...), append([]byte{0}, raw(four)...)} {
				if e := Check(b, root, len(fours), place, in, proofOf(above, place)); e != api.ErrProof {
					t.Errorf("the node %d above the level %d stands as a leaf: %d", place, level, e)
				}
			}
		}
	}
	top := levels[len(levels)-2][0]
	if e := Check(b, root, 1, 0, raw(top), nil); e != api.ErrProof {
		t.Errorf("%d", e)
	}
	if e := Check(b, root, 2, 0, raw(levels[len(levels)-3][0]), [][]api.Digest{top}); e != api.ErrProof {
		t.Errorf("%d", e)
	}
	sub := model(leaves[:4])
	for i := range 4 {
		if e := Check(b, root, 4, i, leaves[i], proofOf(sub, i)); e != api.ErrProof {
			t.Errorf("%d: %d", i, e)
		}
		if e := Check(b, rootOf(sub), 21, i, leaves[i], proofOf(levels, i)); e != api.ErrProof {
			t.Errorf("%d: %d", i, e)
		}
	}
	if b.Clash() {
		t.Error("a clash")
	}
}

// P10.6

func TestOnlyItsPartsFit(t *testing.T) {
	b := ink.New()
	for _, n := range []int{1, 2, 4, 5, 6, 17, 21} {
		leaves := some(rand.New(rand.NewSource(17)), n)
		x := made(t, b, leaves)
		for level := 1; level < x.Depth(); level++ {
			nodes, _ := x.Level(level)
			for i := range nodes {
				p, e := Parts(x, level, i)
				if e != api.OK {
					t.Fatal(e)
				}
				for j, d := range nodes {
					if e := Fits(b, d, p); (e == api.OK) != (i == j) {
						t.Errorf("the parts of %d, %d of %d at %d: %d", level, i, n, j, e)
					}
				}
				onlyThese(t, b, nodes[i], p)
			}
		}
		low, _ := x.Level(0)
		for i, d := range low {
			for j, l := range leaves {
				if e := LeafFits(b, d, l); (e == api.OK) != (i == j) {
					t.Errorf("the leaf %d of %d at %d: %d", j, n, i, e)
				}
			}
			if e := LeafFits(b, d, append([]byte{0}, leaves[i]...)); e != api.ErrProof {
				t.Errorf("%d of %d: %d", i, n, e)
			}
		}
	}
	if b.Clash() {
		t.Error("a clash")
	}
}

// onlyThese fails if a node's children fit in another order, or with one more, one fewer, one other.
func onlyThese(t *testing.T, b *ink.Book, d api.Digest, p []api.Digest) {
	t.Helper()
	for i := range p {
		other := slices.Clone(p)
		other[i][31] ^= 1
		fewer := slices.Delete(slices.Clone(p), i, i+1)
		swapped := slices.Clone(p)
		swapped[0], swapped[i] = swapped[i], swapped[0]
		if e := Fits(b, d, other); e != api.ErrProof {
			t.Errorf("another digest at %d fits: %d", i, e)
		}
		if e := Fits(b, d, fewer); e == api.OK {
			t.Errorf("without the digest %d it fits", i)
		}
		if e := Fits(b, d, swapped); i > 0 && e != api.ErrProof {
			t.Errorf("in another order it fits: %d", e)
		}
	}
	if e := Fits(b, d, append(slices.Clone(p), p[0])); e == api.OK {
		t.Error("with one more it fits")
	}
}

// The chapter's examples.

func TestExamples(t *testing.T) {
	b := ink.New()
	x := made(t, b, [][]byte{{1}, {2}, {3}, {4}, {5}, {6}})
	root, _ := x.Root()
	p, e := Build(x, 4)
	if e != api.OK || len(p) != 2 || len(p[0]) != 2 || len(p[1]) != 2 {
		t.Fatalf("%v, %d", p, e)
	}
	got := []api.Errno{Check(b, root, 6, 4, []byte{5}, p), Check(b, root, 6, 4, []byte{6}, p), Check(b, root, 6, 3, []byte{5}, p), Check(b, root, 6, 6, []byte{5}, p)}
	if !slices.Equal(got, []api.Errno{api.OK, api.ErrProof, api.ErrProof, api.ErrRange}) {
		t.Errorf("%d", got)
	}
	for _, c := range []struct {
		level, place, many int
		e                  api.Errno
	}{{1, 1, 2, api.OK}, {2, 0, 2, api.OK}, {2, 1, 0, api.ErrRange}, {0, 0, 0, api.ErrRange}} {
		if l, e := Parts(x, c.level, c.place); len(l) != c.many || e != c.e {
			t.Errorf("%d, %d: %d digests, %d", c.level, c.place, len(l), e)
		}
	}
}

// R2: one tree that many ask, books side by side.
func TestSideBySide(t *testing.T) {
	leaves := some(rand.New(rand.NewSource(18)), 40)
	levels := model(leaves)
	x := made(t, ink.New(), leaves)
	var wait sync.WaitGroup
	errs := make([]error, 8)
	for g := range errs {
		wait.Go(func() {
			b := ink.New()
			for i, l := range leaves {
				p, e := Build(x, i)
				if f := Check(b, rootOf(levels), len(leaves), i, l, p); e != api.OK || f != api.OK {
					errs[g] = fmt.Errorf("%d: %d, %d", i, e, f)
				}
			}
		})
	}
	wait.Wait()
	for _, e := range errs {
		if e != nil {
			t.Error(e)
		}
	}
}
