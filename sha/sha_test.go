package sha

import (
	"bytes"
	"crypto/sha256"
	"encoding"
	"encoding/binary"
	"encoding/hex"
	"math/big"
	"math/bits"
	"strings"
	"sync"
	"testing"

	"bastide/api"
)

// some are n bytes that look like any others.
func some(n int) []byte {
	out := make([]byte, n)
	x := uint32(n) + 1
	for i := range out {
		x = x*1664525 + 1013904223
		out[i] = byte(x >> 24)
	}
	return out
}

// words are eight numbers of such bytes.
func words(seed int) [8]uint32 {
	var out [8]uint32
	b := some(32 + seed)[seed:]
	for i := range out {
		out[i] = binary.BigEndian.Uint32(b[4*i:])
	}
	return out
}

// states are ordinary ones, and edges: all noughts, all ones, one bit, H.
func states() [][8]uint32 {
	out := [][8]uint32{{}, start()}
	var ones [8]uint32
	for i := range ones {
		ones[i] = 0xFFFFFFFF
		var low, high [8]uint32
		low[i], high[i] = 1, 1<<31
		out = append(out, low, high)
	}
	out = append(out, ones)
	for seed := range 40 {
		out = append(out, words(seed))
	}
	return out
}

// blocks are ordinary ones, and edges.
func blocks() [][64]byte {
	out := [][64]byte{{}, [64]byte(bytes.Repeat([]byte{0xFF}, 64)), {128}, {63: 1}}
	for seed := range 12 {
		out = append(out, [64]byte(some(64 + seed)[seed:]))
	}
	return out
}

// theirs is a hash of the library that has a state, behind so many bytes (whole blocks).
func theirs(t *testing.T, state [8]uint32, size uint64) interface {
	Write([]byte) (int, error)
	Sum([]byte) []byte
} {
	t.Helper()
	b := []byte("sha\x03")
	for _, x := range state {
		b = binary.BigEndian.AppendUint32(b, x)
	}
	b = append(b, make([]byte, 64)...)
	b = binary.BigEndian.AppendUint64(b, size)
	h := sha256.New()
	if err := h.(encoding.BinaryUnmarshaler).UnmarshalBinary(b); err != nil {
		t.Fatal(err)
	}
	return h
}

// theirRound is the library's round.
func theirRound(t *testing.T, state [8]uint32, block [64]byte) [8]uint32 {
	t.Helper()
	h := theirs(t, state, 0)
	h.Write(block[:])
	b, err := h.(encoding.BinaryMarshaler).MarshalBinary()
	if err != nil {
		t.Fatal(err)
	}
	var out [8]uint32
	for i := range out {
		out[i] = binary.BigEndian.Uint32(b[4+4*i:])
	}
	return out
}

// root is the first 32 bits behind the point of n's root (the second or the third), by halving what is between.
func root(n int64, which int64) uint32 {
	target := new(big.Int).Lsh(big.NewInt(n), uint(32*which))
	low, high := big.NewInt(0), new(big.Int).Lsh(big.NewInt(n), 32)
	for one := big.NewInt(1); new(big.Int).Sub(high, low).Cmp(one) > 0; {
		middle := new(big.Int).Rsh(new(big.Int).Add(low, high), 1)
		if new(big.Int).Exp(middle, big.NewInt(which), nil).Cmp(target) <= 0 {
			low = middle
		} else {
			high = middle
		}
	}
	return uint32(low.Uint64())
}

// firstPrimes are the first n ones.
func firstPrimes(n int) []int64 {
	var out []int64
	for p := int64(2); len(out) < n; p++ {
		if big.NewInt(p).ProbablyPrime(20) {
			out = append(out, p)
		}
	}
	return out
}

func mustSum(t *testing.T, h *Hash) api.Digest {
	t.Helper()
	d, e := h.Sum()
	if e != api.OK {
		t.Fatalf("Sum: %d", e)
	}
	return d
}

func mustWrite(t *testing.T, h *Hash, b []byte) {
	t.Helper()
	if e := h.Write(b); e != api.OK {
		t.Fatalf("Write of %d bytes: %d", len(b), e)
	}
}

// P2.1

func TestExamples(t *testing.T) {
	for _, c := range []struct{ in, want string }{
		{"", "E3B0C442 98FC1C14 9AFBF4C8 996FB924 27AE41E4 649B934C A495991B 7852B855"},
		{"abc", "BA7816BF 8F01CFEA 414140DE 5DAE2223 B00361A3 96177A9C B410FF61 F20015AD"},
		{"abcdbcdecdefdefgefghfghighijhijkijkljklmklmnlmnomnopnopq", "248D6A61 D20638B8 E5C02693 0C3E6039 A33CE459 64FF2167 F6ECEDD4 19DB06C1"},
		{strings.Repeat("a", 1000000), "CDC76E5C 9914FB92 81A1C7E2 84D73E67 F1809A48 A497200E 046D39CC C7112CD0"},
	} {
		want, err := hex.DecodeString(strings.ReplaceAll(c.want, " ", ""))
		if err != nil {
			t.Fatal(err)
		}
		if d := Of([]byte(c.in)); !bytes.Equal(d[:], want) {
			t.Errorf("%d bytes: %x", len(c.in), d)
		}
	}
	if Of(nil) != Of([]byte{}) {
		t.Error("nil is not as none")
	}
}

func TestOf(t *testing.T) {
	lengths := []int{1000, 4095, 4096, 65535, 65536, 65537, 1 << 20}
	for n := range 400 {
		lengths = append(lengths, n)
	}
	for _, n := range lengths {
		for _, b := range [][]byte{some(n), make([]byte, n), bytes.Repeat([]byte{0xFF}, n), bytes.Repeat([]byte{128}, n)} {
			if d := Of(b); d != api.Digest(sha256.Sum256(b)) {
				t.Errorf("%d bytes: %x", n, d)
			}
		}
	}
}

// TestOfManyBits begins behind so many bytes that their bits take all of the 8 bytes.
func TestOfManyBits(t *testing.T) {
	for _, size := range []int{1<<29 - 64, 1 << 29, 1<<31 - 64, 1 << 31, 0x0123456789ABCC0, 1<<61 - 64} {
		for _, more := range [][]byte{nil, some(1), some(55), some(56), some(63)} {
			h := New()
			h.state, h.size = words(3), size
			other := theirs(t, words(3), uint64(size))
			mustWrite(t, h, more)
			other.Write(more)
			if d := mustSum(t, h); !bytes.Equal(d[:], other.Sum(nil)) {
				t.Errorf("%d bytes, and %d: %x", size, len(more), d)
			}
			if h.Len() != size+len(more) {
				t.Errorf("%d bytes, and %d: Len %d", size, len(more), h.Len())
			}
		}
	}
}

func TestRound(t *testing.T) {
	for i, s := range states() {
		for j, b := range blocks() {
			want := theirRound(t, s, b)
			if got := Round(s, b); got != want {
				t.Errorf("state %d, block %d: %x, not %x", i, j, got, want)
			}
			if Round(s, b) != want {
				t.Errorf("state %d, block %d: another one the second time", i, j)
			}
		}
	}
}

// TestRoundMakesDigests makes the digest of two blocks by rounds alone.
func TestRoundMakesDigests(t *testing.T) {
	in := some(100)
	whole := append(append(bytes.Clone(in), 128), make([]byte, 19)...)
	whole = binary.BigEndian.AppendUint64(whole, 800)
	state := Round(Round(start(), [64]byte(whole[:64])), [64]byte(whole[64:]))
	var want []byte
	for _, x := range state {
		want = binary.BigEndian.AppendUint32(want, x)
	}
	if d := Of(in); !bytes.Equal(d[:], want) {
		t.Errorf("%x, not %x", d, want)
	}
}

func TestRoots(t *testing.T) {
	all := firstPrimes(64)
	if all[63] != lastPrime {
		t.Fatalf("the 64th prime is %d", all[63])
	}
	for i, h := range start() {
		if want := root(all[i], 2); h != want {
			t.Errorf("H of %d: %x, not %x", all[i], h, want)
		}
	}
	for i, k := range cubeRoots() {
		if want := root(all[i], 3); k != want {
			t.Errorf("K of %d: %x, not %x", all[i], k, want)
		}
	}
	for i, p := range primes() {
		if p != uint64(all[i]) {
			t.Errorf("prime %d: %d", i, p)
		}
	}
}

// TestCubeRootFromAfar looks for roots from further above than cubeRoots does.
func TestCubeRootFromAfar(t *testing.T) {
	for _, n := range firstPrimes(64) {
		p, want := uint64(n), root(n, 3)
		for above := uint64(7 << 32); tooGreat(p, above); above -= 1 << 29 {
			if x := uint32(cubeRoot(p, above)); x != want {
				t.Errorf("%d, from %x: %x", p, above, x)
			}
		}
	}
}

// P2.2

func TestNone(t *testing.T) {
	var zero Hash
	for name, h := range map[string]*Hash{"nil": nil, "zero": &zero, "new": new(Hash)} {
		for range 2 {
			for _, b := range [][]byte{nil, {}, {1}, some(64), some(200)} {
				if e := h.Write(b); e != api.ErrNil {
					t.Errorf("%s: Write of %d bytes: %d", name, len(b), e)
				}
				if d, e := h.Sum(); e != api.ErrNil || d != (api.Digest{}) {
					t.Errorf("%s: Sum: %x, %d", name, d, e)
				}
				if n := h.Len(); n != 0 {
					t.Errorf("%s: Len: %d", name, n)
				}
			}
		}
	}
}

func TestNew(t *testing.T) {
	h := New()
	if h.Len() != 0 || mustSum(t, h) != Of(nil) {
		t.Errorf("%d bytes, %x", h.Len(), mustSum(t, h))
	}
	for range 3 {
		mustWrite(t, h, nil)
		mustWrite(t, h, []byte{})
	}
	if h.Len() != 0 || mustSum(t, h) != Of(nil) {
		t.Errorf("behind nothing: %d bytes, %x", h.Len(), mustSum(t, h))
	}
}

// TestNothingEnds asks ahead of each byte and behind the last one, twice each.
func TestNothingEnds(t *testing.T) {
	h := New()
	in := some(300)
	for n := range len(in) + 1 {
		want := api.Digest(sha256.Sum256(in[:n]))
		for range 2 {
			if d := mustSum(t, h); d != want || h.Len() != n {
				t.Fatalf("%d bytes: %x, Len %d", n, d, h.Len())
			}
		}
		if n < len(in) {
			mustWrite(t, h, in[n:n+1])
		}
	}
}

// TestHashesApart writes to two hashes by turns.
func TestHashesApart(t *testing.T) {
	a, b, c := New(), New(), New()
	x, y := some(500), bytes.Repeat([]byte{7}, 500)
	for at := 0; at < 500; at += 25 {
		mustWrite(t, a, x[at:at+25])
		mustWrite(t, b, y[at:at+25])
	}
	if mustSum(t, a) != Of(x) || mustSum(t, b) != Of(y) || mustSum(t, c) != Of(nil) || c.Len() != 0 {
		t.Errorf("%x, %x, %x", mustSum(t, a), mustSum(t, b), mustSum(t, c))
	}
}

// TestOnce: K is made when the first block comes, whether Write has it or Sum, and for several at a time.
func TestOnce(t *testing.T) {
	none, all := [64]uint32{}, cubeRoots()
	h := New()
	mustWrite(t, h, some(63))
	if h.k != none {
		t.Error("K is made ahead of the first block")
	}
	mustWrite(t, h, some(1))
	if h.k != all {
		t.Error("K is not made behind the first block")
	}
	h = New()
	mustSum(t, h)
	if h.k != all {
		t.Error("K is not made behind a sum")
	}
	h = New()
	mustWrite(t, h, some(10))
	var group sync.WaitGroup
	got := make([]api.Digest, 8)
	for i := range got {
		group.Go(func() { got[i], _ = h.Sum() })
	}
	group.Wait()
	for i, d := range got {
		if d != Of(some(10)) {
			t.Errorf("sum %d: %x", i, d)
		}
	}
}

// P2.3

func TestOnlyRead(t *testing.T) {
	for _, n := range []int{0, 1, 55, 56, 63, 64, 65, 128, 200} {
		room := some(n + 150)
		before := bytes.Clone(room)
		h := New()
		mustWrite(t, h, room[:n])
		mustSum(t, h)
		Of(room[:n])
		var none *Hash
		none.Write(room[:n])
		if !bytes.Equal(room, before) {
			t.Errorf("%d bytes: what was handed in is changed", n)
		}
	}
}

func TestNotKept(t *testing.T) {
	for _, n := range []int{1, 55, 63, 64, 65, 127, 128, 200} {
		h, b := New(), some(n)
		mustWrite(t, h, b)
		clear(b)
		mustWrite(t, h, b)
		want := Of(append(some(n), make([]byte, n)...))
		d := mustSum(t, h)
		if d != want {
			t.Errorf("%d bytes: %x", n, d)
		}
		clear(d[:])
		if mustSum(t, h) != want {
			t.Errorf("%d bytes: what was answered is kept", n)
		}
	}
}

// P2.4

func TestTwoPieces(t *testing.T) {
	for _, n := range []int{0, 1, 55, 56, 57, 63, 64, 65, 119, 120, 127, 128, 129, 192, 200} {
		in := some(n)
		want := api.Digest(sha256.Sum256(in))
		for at := range n + 1 {
			h := New()
			mustWrite(t, h, in[:at])
			mustWrite(t, h, in[at:])
			if d := mustSum(t, h); d != want || h.Len() != n {
				t.Errorf("%d bytes cut at %d: %x, Len %d", n, at, d, h.Len())
			}
		}
	}
}

func TestThreePieces(t *testing.T) {
	in := some(150)
	want := api.Digest(sha256.Sum256(in))
	for at := range len(in) + 1 {
		for to := at; to <= len(in); to += 7 {
			h := New()
			mustWrite(t, h, in[:at])
			mustWrite(t, h, in[at:to])
			mustWrite(t, h, nil)
			mustWrite(t, h, in[to:])
			if d := mustSum(t, h); d != want || h.Len() != len(in) {
				t.Errorf("cut at %d and %d: %x, Len %d", at, to, d, h.Len())
			}
		}
	}
}

func TestEvenPieces(t *testing.T) {
	in := some(70000)
	want := api.Digest(sha256.Sum256(in))
	for _, size := range []int{1, 2, 3, 31, 32, 63, 64, 65, 127, 128, 129, 1000, 65536, 70000} {
		h := New()
		for at := 0; at < len(in); at += size {
			mustWrite(t, h, in[at:min(at+size, len(in))])
		}
		if d := mustSum(t, h); d != want || h.Len() != len(in) {
			t.Errorf("pieces of %d: %x, Len %d", size, d, h.Len())
		}
	}
}

// P2.5

// added is what a round of a block adds to a state.
func added(state [8]uint32, block [64]byte) [8]uint32 {
	out := Round(state, block)
	for i := range out {
		out[i] -= state[i]
	}
	return out
}

// back takes the 64 steps of a block back: from what the letters are behind them to what they were ahead.
func back(v [8]uint32, block [64]byte, k []uint32) [8]uint32 {
	turn := func(x uint32, n int) uint32 { return bits.RotateLeft32(x, -n) }
	var w [64]uint32
	for t := range w {
		if t < 16 {
			w[t] = binary.BigEndian.Uint32(block[4*t:])
			continue
		}
		x, y := w[t-15], w[t-2]
		w[t] = w[t-16] + (turn(x, 7) ^ turn(x, 18) ^ (x >> 3)) + w[t-7] + (turn(y, 17) ^ turn(y, 19) ^ (y >> 10))
	}
	for t := 63; t >= 0; t-- {
		a, b, c, e, f, g := v[1], v[2], v[3], v[5], v[6], v[7]
		u := (turn(a, 2) ^ turn(a, 13) ^ turn(a, 22)) + ((a & b) ^ (a & c) ^ (b & c))
		x := v[0] - u
		h := x - (turn(e, 6) ^ turn(e, 11) ^ turn(e, 25)) - ((e & f) ^ (^e & g)) - k[t] - w[t]
		v = [8]uint32{a, b, c, v[4] - x, e, f, g, h}
	}
	return v
}

func TestStepsTakenBack(t *testing.T) {
	var k []uint32
	for _, p := range firstPrimes(64) {
		k = append(k, root(p, 3))
	}
	for i, s := range states() {
		for j, b := range blocks() {
			if got := back(added(s, b), b, k); got != s {
				t.Errorf("state %d, block %d: back to %x, not %x", i, j, got, s)
			}
		}
	}
}

func TestAddedUnlike(t *testing.T) {
	for j, b := range blocks() {
		from := map[[8]uint32][8]uint32{}
		for i, s := range states() {
			x := added(s, b)
			if other, ok := from[x]; ok && other != s {
				t.Errorf("block %d: state %d adds what %x adds", j, i, other)
			}
			from[x] = s
		}
	}
}
