package atlas

import (
	"slices"

	"bastide/api"
	"bastide/lists"
	"bastide/wish"
)

// Which leaf a thing is: first the chunks, then the clients.
const (
	chunkLeaf  = iota * api.MaxChunks // the chunk 1; the other one stands behind it
	clientLeaf                        // the first client; likewise
	manyLeaves = clientLeaf + clients // how many there are
)

// longestLeaf is how many bytes a leaf's text may have.
const longestLeaf = 128

// tale is what a chunk's leaf tells.
type tale struct {
	first []api.Crew // that of the first epoch; none, if there is no such chunk
	swaps []int      // of each later epoch who left, and who came
}

// read takes leaves into a new atlas, and tells whether they may be.
func (a *Atlas) read(leaves [][]byte) bool {
	if len(leaves) != manyLeaves || slices.ContainsFunc(leaves, isLong) {
		return false
	}
	if !a.readChunks(leaves[chunkLeaf:clientLeaf]) {
		return false
	}
	for i := range a.clients {
		if !a.clients[i].read(leaves[clientLeaf+i]) {
			return false
		}
	}
	return true
}

// readChunks takes all first crews ahead of all who came later: these are to be unlike those of either chunk.
func (a *Atlas) readChunks(leaves [][]byte) bool {
	var tales [api.MaxChunks]tale
	var firsts []api.Crew
	for i, leaf := range leaves {
		t, ok := taleOf(leaf)
		// There is no chunk 2 without a chunk 1.
		if !ok || len(t.first) > 0 && len(firsts) < i {
			return false
		}
		tales[i] = t
		firsts = append(firsts, t.first...)
	}
	if !a.begin(firsts) {
		return false
	}
	for i, t := range tales {
		for swap := range slices.Chunk(t.swaps, 2) {
			if a.replace(&a.chunks[i], swap[0], swap[1]) != api.OK {
				return false
			}
		}
	}
	return true
}

func taleOf(leaf []byte) (tale, bool) {
	l, ok := lists.TakeNumbers(leaf)
	if ok && slices.Equal(l, []int{0}) {
		return tale{}, true
	}
	if !ok || len(l) < 2 || l[0] < 1 || l[1] > api.MaxFaults {
		return tale{}, false
	}
	swaps := 2 + 3*l[1] + 1 // where they begin
	if len(l) != swaps+2*(l[0]-1) {
		return tale{}, false
	}
	return tale{first: []api.Crew{{Faults: l[1], Nodes: l[2:swaps]}}, swaps: l[swaps:]}, true
}

func (c *chunk) written() []byte {
	l := []int{c.epochs}
	if c.is() {
		l = append(l, c.crews[0].Faults)
		l = append(l, c.crews[0].Nodes...)
	}
	for i := 1; i < c.epochs; i++ {
		l = append(l, gone(c.crews[i-1], c.crews[i]), gone(c.crews[i], c.crews[i-1]))
	}
	return lists.Numbers(l...)
}

func (c *client) written() []byte {
	l := []int{c.stamp, int(c.answer.Err), c.answer.Epoch, len(c.answer.Nodes)}
	return lists.Numbers(append(l, c.answer.Nodes...)...)
}

func (c *client) read(leaf []byte) bool {
	l, ok := lists.TakeNumbers(leaf)
	if !ok || len(l) < 4 || l[3] != len(l)-4 {
		return false
	}
	c.stamp, c.answer = l[0], api.Answer{Err: api.Errno(l[1]), Epoch: l[2], Nodes: l[4:]}
	return c.mayBe()
}

// mayBe tells whether a client may have such an answer.
func (c *client) mayBe() bool {
	x := c.answer
	if c.stamp == 0 {
		return x.Err == api.OK && x.Epoch == 0 && len(x.Nodes) == 0
	}
	known := x.Err == api.OK || x.Err == api.ErrLimit || x.Err == api.ErrMap
	return known && x.Epoch < mostEpochs && (len(x.Nodes) == 0 || areSeals(x.Nodes))
}

// areSeals tells whether nodes may be those of a seal.
func areSeals(nodes []int) bool {
	return wish.Check(api.Wish{Kind: api.WishSeal, Group: 1, Next: nodes}) == api.OK
}

func isLong(leaf []byte) bool {
	return len(leaf) > longestLeaf
}
