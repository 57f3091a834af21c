package vault

import (
	"bytes"
	"slices"

	"bastide/api"
	"bastide/bin"
	"bastide/lists"
	"bastide/wish"
)

// Which leaf a thing is: first the blocks, then the clients.
const (
	blockLeaf  = iota * api.Blocks // the block 0; the others stand behind it
	clientLeaf                     // the first client; likewise
)

const (
	epochLeaf  = clientLeaf + clients + iota // the group, its epoch and the seal
	manyLeaves                               // how many there are
)

// longestLeaf is how many bytes a leaf's text may have.
const longestLeaf = 128

// writers make the leaves, each at its place.
func (v *Vault) writers() [manyLeaves]func() []byte {
	var l [manyLeaves]func() []byte
	for i := range v.blocks {
		l[blockLeaf+i] = func() []byte { return bytes.Clone(v.blocks[i][:]) }
	}
	for i := range v.clients {
		l[clientLeaf+i] = func() []byte { return v.clients[i].written() }
	}
	l[epochLeaf] = func() []byte {
		return lists.Numbers(append([]int{v.group, v.epoch, len(v.seal)}, v.seal...)...)
	}
	return l
}

// readers take the leaves, each at its place, into a vault; they tell whether these may be.
func (v *Vault) readers() [manyLeaves]func(leaf []byte) bool {
	var l [manyLeaves]func(leaf []byte) bool
	for i := range v.blocks {
		l[blockLeaf+i] = func(leaf []byte) bool {
			copy(v.blocks[i][:], leaf)
			return len(leaf) == api.BlockSize
		}
	}
	for i := range v.clients {
		l[clientLeaf+i] = v.clients[i].read
	}
	l[epochLeaf] = v.readEpoch
	return l
}

// read takes leaves into a new vault, and tells whether they may be.
func (v *Vault) read(leaves [][]byte) bool {
	// Long ones ahead of all reading: bin copies what is left.
	if len(leaves) != manyLeaves || slices.ContainsFunc(leaves, isLong) {
		return false
	}
	for i, read := range v.readers() {
		if !read(leaves[i]) {
			return false
		}
	}
	return true
}

// readEpoch takes the last leaf.
func (v *Vault) readEpoch(leaf []byte) bool {
	l, ok := lists.TakeNumbers(leaf)
	if !ok || len(l) < 3 || l[2] != len(l)-3 {
		return false
	}
	v.group, v.epoch, v.seal = l[0], l[1], l[3:]
	if v.isSealed() {
		return wish.Check(api.Wish{Kind: api.WishSeal, Group: v.group, Epoch: v.epoch, Next: v.seal}) == api.OK
	}
	return isChunk(v.group) && v.epoch <= api.MaxEpoch
}

func (c *client) written() []byte {
	return bin.Join(lists.Numbers(c.stamp), lists.Texts(c.data))
}

func (c *client) read(leaf []byte) bool {
	stamp, rest, e := bin.TakeNum(leaf)
	if e != api.OK {
		return false
	}
	data, rest, e := bin.TakeStr(rest, api.BlockSize)
	if e != api.OK || len(rest) > 0 {
		return false
	}
	c.stamp, c.data = stamp, data
	return len(data) == 0 || len(data) == api.BlockSize && stamp > 0
}

func isChunk(group int) bool {
	return group >= 1 && group <= api.MaxChunks
}

func isLong(leaf []byte) bool {
	return len(leaf) > longestLeaf
}
