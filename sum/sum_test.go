package sum

import (
	"bytes"
	"hash/crc64"
	"math"
	"math/rand"
	"sync"
	"testing"
)

// turner is the chapter's number, written once more, so that a slip in the program's does not go unseen.
const turner = 0xC96C5795D7870F42

// took is the chapter's words for a byte that is taken in, bit by bit.
func took(state uint64, c byte) uint64 {
	state ^= uint64(c)
	for i := 0; i < 8; i++ {
		if state%2 == 1 {
			state = state/2 ^ turner
		} else {
			state /= 2
		}
	}
	return state
}

// untook is the state ahead of a byte that was taken in: turner alone has the highest bit, so that this one tells what was shifted out.
func untook(state uint64, c byte) uint64 {
	for i := 0; i < 8; i++ {
		if state>>63 == 1 {
			state = (state^turner)<<1 | 1
		} else {
			state <<= 1
		}
	}
	return state ^ uint64(c)
}

// states are some of 64 bits: the edges, each bit alone, and any.
func states(r *rand.Rand) []uint64 {
	l := []uint64{0, 1, 2, 0x7F, 0x80, 0xFF, 0x100, turner, ^uint64(turner), math.MaxInt64, math.MaxUint32, math.MaxUint64 - 1, math.MaxUint64}
	for i := range 64 {
		l = append(l, 1<<i, ^(uint64(1) << i))
	}
	for range 50 {
		l = append(l, r.Uint64())
	}
	return l
}

// some is so many bytes, any.
func some(r *rand.Rand, n int) []byte {
	b := make([]byte, n)
	r.Read(b)
	return b
}

// inputs are bytes of many lengths: noughts, ones, and any.
func inputs(r *rand.Rand) [][]byte {
	l := [][]byte{nil, {}, {0}, {1}, {0x80}, {0xFF}, []byte("123456789"), []byte("abc")}
	for _, n := range []int{2, 3, 7, 8, 9, 15, 16, 17, 55, 56, 57, 63, 64, 65, 255, 256, 257, 1000, 65535, 65536, 65537} {
		l = append(l, make([]byte, n), bytes.Repeat([]byte{0xFF}, n), some(r, n))
	}
	return l
}

// P6.1

func TestExamples(t *testing.T) {
	for what, c := range map[string]struct{ got, want uint64 }{
		"Of(nil)":                  {Of(nil), 0},
		"Of(none)":                 {Of([]byte{}), 0},
		"Of(123456789)":            {Of([]byte("123456789")), 0x995DC9BBDF1939FA},
		"Step(0, 0)":               {Step(0, 0), 0},
		"Step(0, 1)":               {Step(0, 1), 0xB32E4CBE03A75F6F},
		"Step(0, 128)":             {Step(0, 0x80), turner},
		"Add(Of(1234), 56789)":     {Add(Of([]byte("1234")), []byte("56789")), 0x995DC9BBDF1939FA},
		"Add(0, 123456789)":        {Add(0, []byte("123456789")), 0x995DC9BBDF1939FA},
		"Add(Of(123456789), nil)":  {Add(Of([]byte("123456789")), nil), 0x995DC9BBDF1939FA},
		"Add(Of(123456789), none)": {Add(Of([]byte("123456789")), []byte{}), 0x995DC9BBDF1939FA},
		"Of(a nought)":             {Of([]byte{0}), 0x1FADA17364673F59},
		"Add(ones, a nought)":      {Add(math.MaxUint64, []byte{0}), math.MaxUint64},
		"Add(ones, a one)":         {Add(math.MaxUint64, []byte{1}), ^uint64(0xB32E4CBE03A75F6F)},
	} {
		if c.got != c.want {
			t.Errorf("%s: %X, not %X", what, c.got, c.want)
		}
	}
}

func TestStep(t *testing.T) {
	for _, s := range states(rand.New(rand.NewSource(1))) {
		for c := range 256 {
			if got := Step(s, byte(c)); got != took(s, byte(c)) {
				t.Fatalf("Step(%X, %X): %X, not %X", s, c, got, took(s, byte(c)))
			}
		}
	}
}

func TestOf(t *testing.T) {
	xz := crc64.MakeTable(crc64.ECMA)
	for _, b := range inputs(rand.New(rand.NewSource(2))) {
		state := uint64(math.MaxUint64)
		for _, c := range b {
			state = took(state, c)
		}
		if got := Of(b); got != ^state || got != crc64.Checksum(b, xz) {
			t.Errorf("Of %d bytes: %X, not %X", len(b), got, ^state)
		}
	}
}

func TestOfEachByte(t *testing.T) {
	for c := range 256 {
		for d := range 256 {
			b := []byte{byte(c), byte(d)}
			if want := ^took(took(math.MaxUint64, b[0]), b[1]); Of(b) != want {
				t.Fatalf("Of(%X): %X, not %X", b, Of(b), want)
			}
		}
		if want := ^took(math.MaxUint64, byte(c)); Of([]byte{byte(c)}) != want {
			t.Fatalf("Of(%X): %X, not %X", c, Of([]byte{byte(c)}), want)
		}
	}
}

func TestAdd(t *testing.T) {
	r := rand.New(rand.NewSource(3))
	for _, s := range states(r) {
		for _, b := range [][]byte{nil, {}, {0}, {1}, {0xFF}, some(r, 2), some(r, 56), some(r, 300)} {
			state := ^s
			for _, c := range b {
				state = took(state, c)
			}
			if got := Add(s, b); got != ^state {
				t.Fatalf("Add(%X, %d bytes): %X, not %X", s, len(b), got, ^state)
			}
		}
	}
}

func TestOfIsSteps(t *testing.T) {
	for _, b := range inputs(rand.New(rand.NewSource(4))) {
		state := uint64(math.MaxUint64)
		for _, c := range b {
			state = Step(state, c)
		}
		if Of(b) != ^state {
			t.Errorf("%d bytes: %X, but by steps %X", len(b), Of(b), ^state)
		}
	}
}

// P6.2

func TestOnlyRead(t *testing.T) {
	r := rand.New(rand.NewSource(5))
	for _, n := range []int{0, 1, 2, 8, 56, 64, 1000} {
		room := some(r, n+80)
		before := bytes.Clone(room)
		of, add := Of(room[:n]), Add(7, room[:n])
		if !bytes.Equal(room, before) {
			t.Errorf("%d bytes: what was handed in was changed", n)
		}
		if of != Of(before[:n:n]) || add != Add(7, before[:n:n]) {
			t.Errorf("%d bytes: the spare room counts", n)
		}
	}
}

func TestNothingIsKept(t *testing.T) {
	b := []byte("123456789")
	first := Of(b)
	Add(first, b)
	Step(first, 9)
	b[0] ^= 0xFF
	if Of(b) == first {
		t.Error("other bytes, where the first ones were: their sum is the first ones'")
	}
	b[0] ^= 0xFF
	if Of(b) != first || Add(0, b) != first {
		t.Errorf("the same bytes: %X, not %X", Of(b), first)
	}
}

func TestSideBySide(t *testing.T) {
	b := some(rand.New(rand.NewSource(6)), 4096)
	want := crc64.Checksum(b, crc64.MakeTable(crc64.ECMA))
	var all sync.WaitGroup
	for range 8 {
		all.Go(func() {
			for at := range 64 {
				if Add(Of(b[:at]), b[at:]) != want {
					t.Errorf("cut at %d, side by side with others: another sum", at)
				}
			}
		})
	}
	all.Wait()
}

// P6.3

func TestTwoPieces(t *testing.T) {
	b := some(rand.New(rand.NewSource(7)), 600)
	want := Of(b)
	for at := range len(b) + 1 {
		if got := Add(Of(b[:at]), b[at:]); got != want {
			t.Errorf("cut at %d: %X, not %X", at, got, want)
		}
	}
}

func TestAnyPieces(t *testing.T) {
	r := rand.New(rand.NewSource(8))
	for range 300 {
		b := some(r, r.Intn(500))
		got, rest := Of(nil), b
		for len(rest) > 0 {
			n := r.Intn(min(len(rest), 70) + 1)
			got, rest = Add(got, rest[:n]), rest[n:]
		}
		if got != Of(b) {
			t.Fatalf("%d bytes in pieces: %X, not %X", len(b), got, Of(b))
		}
	}
}

func TestByteByByte(t *testing.T) {
	for _, b := range inputs(rand.New(rand.NewSource(9))) {
		got := uint64(0)
		for i := range b {
			got = Add(got, b[i:i+1])
		}
		if got != Of(b) {
			t.Errorf("%d bytes, one by one: %X, not %X", len(b), got, Of(b))
		}
	}
}

// P6.4

// turned has bits turned: bit i of the pattern is that of the place at + i; places go on from a byte's lowest bit to its highest one, as they are taken in.
func turned(b []byte, at int, pattern uint64) []byte {
	out := bytes.Clone(b)
	for i := range 64 {
		if pattern>>i&1 == 1 {
			out[(at+i)/8] ^= 1 << ((at + i) % 8)
		}
	}
	return out
}

func TestTurnedBits(t *testing.T) {
	r := rand.New(rand.NewSource(10))
	for _, n := range []int{8, 9, 56, 200} {
		b := some(r, n)
		want := Of(b)
		for at := range 8*n - 63 {
			patterns := []uint64{1, 3, 1<<63 | 1, math.MaxUint64, turner, r.Uint64() | 1, r.Uint64()>>r.Intn(64) | 1}
			for _, p := range patterns {
				if Of(turned(b, at, p)) == want {
					t.Errorf("%d bytes, %X turned from %d on: the same sum", n, p, at)
				}
			}
		}
	}
}

func TestOneOrTwoTurnedBits(t *testing.T) {
	b := some(rand.New(rand.NewSource(11)), 20)
	want := Of(b)
	for i := range 8 * len(b) {
		one := bytes.Clone(b)
		one[i/8] ^= 1 << (i % 8)
		if Of(one) == want {
			t.Errorf("bit %d turned: the same sum", i)
		}
		for j := range i {
			two := bytes.Clone(one)
			two[j/8] ^= 1 << (j % 8)
			if Of(two) == want {
				t.Errorf("bits %d and %d turned: the same sum", i, j)
			}
		}
	}
}

func TestTurnedBytes(t *testing.T) {
	b := some(rand.New(rand.NewSource(12)), 64)
	want := Of(b)
	for at := range len(b) {
		for x := 1; x < 256; x++ {
			other := bytes.Clone(b)
			other[at] ^= byte(x)
			if Of(other) == want {
				t.Errorf("byte %d xored with %X: the same sum", at, x)
			}
		}
	}
}

func TestXors(t *testing.T) {
	r := rand.New(rand.NewSource(13))
	for _, n := range []int{0, 1, 2, 7, 8, 9, 55, 56, 57, 64, 300, 5000} {
		a, b, x := some(r, n), some(r, n), make([]byte, n)
		for i := range n {
			x[i] = a[i] ^ b[i]
		}
		if Of(a)^Of(b) != Of(x)^Of(make([]byte, n)) {
			t.Errorf("%d bytes: %X and %X, but %X of their xor, %X of noughts", n, Of(a), Of(b), Of(x), Of(make([]byte, n)))
		}
	}
}

// P6.5

func TestStepsGoBack(t *testing.T) {
	for _, s := range states(rand.New(rand.NewSource(14))) {
		for c := range 256 {
			if got := untook(Step(s, byte(c)), byte(c)); got != s {
				t.Fatalf("Step(%X, %X): from %X, too", s, c, got)
			}
			if got := Step(untook(s, byte(c)), byte(c)); got != s {
				t.Fatalf("%X comes of no state that takes %X in", s, c)
			}
		}
	}
}

func TestUnlikeStates(t *testing.T) {
	for c := range 256 {
		from := map[uint64]uint64{}
		for _, s := range states(rand.New(rand.NewSource(15))) {
			to := Step(s, byte(c))
			if was, ok := from[to]; ok && was != s {
				t.Errorf("%X and %X take %X in: both %X", was, s, c, to)
			}
			from[to] = s
		}
	}
}

func TestUnlikeBytes(t *testing.T) {
	for _, s := range states(rand.New(rand.NewSource(16))) {
		seen := map[uint64]int{}
		for c := range 256 {
			to := Step(s, byte(c))
			if was, ok := seen[to]; ok {
				t.Errorf("%X takes %X or %X in: both %X", s, was, c, to)
			}
			seen[to] = c
		}
	}
}
