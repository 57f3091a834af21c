package sha

import "math/bits"

// lastPrime is the 64th one.
const lastPrime = 311

// start is H: of the first 8 primes' square roots the first 32 bits behind the point.
func start() [8]uint32 {
	return [8]uint32{
		0x6A09E667, 0xBB67AE85, 0x3C6EF372, 0xA54FF53A,
		0x510E527F, 0x9B05688C, 0x1F83D9AB, 0x5BE0CD19,
	}
}

// cubeRoots is K: of the first 64 primes' cube roots the first 32 bits behind the point.
func cubeRoots() [64]uint32 {
	var out [64]uint32
	root := uint64(7 << 32) // 7^3 is above the last prime
	all := primes()
	for i := len(all) - 1; i >= 0; i-- {
		root = cubeRoot(all[i], root)
		out[i] = uint32(root)
	}
	return out
}

// primes are the first 64.
func primes() [64]uint64 {
	var out [64]uint64
	var crossed [lastPrime + 1]bool
	found := 0
	for n := 2; n <= lastPrime; n++ {
		if crossed[n] {
			continue
		}
		out[found] = uint64(n)
		found++
		for m := n * n; m <= lastPrime; m += n {
			crossed[m] = true
		}
	}
	return out
}

// cubeRoot is p's cube root, times 2^32, without what is behind its point. It is looked for from one that is not below it, by Newton's steps: each hash makes 64 roots, and bit by bit they take more than twice as long.
func cubeRoot(p, above uint64) uint64 {
	x := above
	for tooGreat(p, x) {
		x = min(step(p, x), x-1)
	}
	return x
}

// step is Newton's: (2x + p * 2^96 / x^2) / 3, which is never below the root. As x is below 2^35, x^2 has 70 bits at most: the last of them are cut off to divide by the others, which makes the quotient greater, by 1 at most.
func step(p, x uint64) uint64 {
	const cut = 7
	high, low := bits.Mul64(x, x)
	quotient, _ := bits.Div64(p<<(32-cut), 0, high<<(64-cut)|low>>cut)
	return (2*x + quotient) / 3
}

// tooGreat tells whether x^3 is above p * 2^96; no prime is a cube, so they are never the same.
func tooGreat(p, x uint64) bool {
	high, low := bits.Mul64(x, x)
	carry, _ := bits.Mul64(low, x)
	return high*x+carry >= p<<32
}
