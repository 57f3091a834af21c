package vault

import (
	"bytes"
	"slices"

	"bastide/api"
	"bastide/bin"
	"bastide/wish"
)

// Which leaf a thing is: first the blocks, then the clients.
const (
	blockLeaf  = iota * api.Blocks // the block 0; the others stand behind it
	clientLeaf                     // the first client; likewise
)

const (
	epochLeaf  = clientLeaf + clients + iota // the group, its epoch and the seal
	manyLeaves                               // how many there are
)

const (
	longestNumber = 8   // bytes of a number
	longestLeaf   = 128 // bytes that a leaf's text may have
)

// writers make the leaves, each at its place.
func (v *Vault) writers() [manyLeaves]func() []byte {
	var l [manyLeaves]func() []byte
	for i := range v.blocks {
		l[blockLeaf+i] = func() []byte { return bytes.Clone(v.blocks[i][:]) }
	}
	for i := range v.clients {
		l[clientLeaf+i] = func() []byte { return v.clients[i].written() }
	}
	l[epochLeaf] = func() []byte {
		return bin.Join(numbers(v.group, v.epoch, len(v.seal)), numbers(v.seal...))
	}
	return l
}

// readers take the leaves, each at its place, into a vault; they tell whether these may be.
func (v *Vault) readers() [manyLeaves]func(leaf []byte) bool {
	var l [manyLeaves]func(leaf []byte) bool
	for i := range v.blocks {
		l[blockLeaf+i] = func(leaf []byte) bool {
			copy(v.blocks[i][:], leaf)
			return len(leaf) == api.BlockSize
		}
	}
	for i := range v.clients {
		l[clientLeaf+i] = v.clients[i].read
	}
	l[epochLeaf] = v.readEpoch
	return l
}

// read takes leaves into a new vault, and tells whether they may be.
func (v *Vault) read(leaves [][]byte) bool {
	// Long ones ahead of all reading: bin copies what is left.
	if len(leaves) != manyLeaves || slices.ContainsFunc(leaves, isLong) {
		return false
	}
	for i, read := range v.readers() {
		if !read(leaves[i]) {
			return false
		}
	}
	return true
}

// readEpoch takes the last leaf.
func (v *Vault) readEpoch(leaf []byte) bool {
	l, ok := taken(leaf)
	if !ok || len(l) < 3 || l[2] != len(l)-3 {
		return false
	}
	v.group, v.epoch, v.seal = l[0], l[1], l[3:]
	if v.isSealed() {
		return wish.Check(api.Wish{Kind: api.WishSeal, Group: v.group, Epoch: v.epoch, Next: v.seal}) == api.OK
	}
	return isChunk(v.group) && v.epoch <= api.MaxEpoch
}

func (c *client) written() []byte {
	data, _ := bin.Str(c.data) // a block's bytes at most
	return bin.Join(numbers(c.stamp), data)
}

func (c *client) read(leaf []byte) bool {
	stamp, rest, e := bin.TakeNum(leaf)
	if e != api.OK {
		return false
	}
	data, rest, e := bin.TakeStr(rest, api.BlockSize)
	if e != api.OK || len(rest) > 0 {
		return false
	}
	c.stamp, c.data = stamp, data
	return len(data) == 0 || len(data) == api.BlockSize && stamp > 0
}

// unpacked takes the leaves' texts off bytes.
func unpacked(b []byte) ([][]byte, api.Errno) {
	var l [][]byte
	for range manyLeaves {
		// bin is shown no more than a text may be, as it copies what is left.
		near := b[:min(len(b), longestNumber+longestLeaf)]
		leaf, left, e := bin.TakeStr(near, longestLeaf)
		if e != api.OK {
			return nil, e
		}
		l = append(l, leaf)
		b = b[len(near)-len(left):]
	}
	if len(b) > 0 {
		return nil, api.ErrSyntax
	}
	return l, api.OK
}

// numbers is the bytes of numbers; bin refuses none, as all stand in a vault, or count what it has.
func numbers(l ...int) []byte {
	var out []byte
	for _, n := range l {
		b, _ := bin.Num(n)
		out = append(out, b...)
	}
	return out
}

// taken is the numbers of bytes, if these are numbers alone.
func taken(b []byte) ([]int, bool) {
	var l []int
	for len(b) > 0 {
		n, rest, e := bin.TakeNum(b)
		if e != api.OK {
			return nil, false
		}
		l, b = append(l, n), rest
	}
	return l, true
}

func isChunk(group int) bool {
	return group >= 1 && group <= api.MaxChunks
}

func isLong(leaf []byte) bool {
	return len(leaf) > longestLeaf
}
