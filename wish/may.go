package wish

import "bastide/api"

// mayBe tells whether a wish may be: what its kind names is within, all else is zero.
func mayBe(w api.Wish) bool {
	if !within(w.Epoch, 0, api.MaxEpoch) {
		return false
	}
	switch w.Kind {
	case api.WishRead:
		return asked(w) && ofBlock(w) && len(w.Data) == 0 && noSwap(w) && len(w.Next) == 0
	case api.WishWrite:
		return asked(w) && ofBlock(w) && len(w.Data) == api.BlockSize && noSwap(w) && len(w.Next) == 0
	case api.WishQuery:
		return asked(w) && ofDirectory(w) && len(w.Data) == 0 && noSwap(w) && len(w.Next) == 0
	case api.WishReplace:
		return asked(w) && ofDirectory(w) && len(w.Data) == 0 && swap(w) && len(w.Next) == 0
	case api.WishSeal:
		return seal(w) && len(w.Data) == 0 && noSwap(w) && next(w.Next)
	}
	return false
}

// asked tells whether somebody who may wish does.
func asked(w api.Wish) bool {
	return within(w.Client, firstClient, api.Steward) && within(w.Stamp, 1, api.MaxNumber)
}

// ofBlock tells whether a wish is a chunk's, of one of its blocks.
func ofBlock(w api.Wish) bool {
	return chunk(w.Group) && within(w.Block, 0, api.Blocks-1)
}

// ofDirectory tells whether a wish is the directory's, of a chunk; the directory has one epoch only.
func ofDirectory(w api.Wish) bool {
	return w.Group == 0 && w.Epoch == 0 && chunk(w.Block)
}

// swap tells whether a node leaves for another one.
func swap(w api.Wish) bool {
	return node(w.Old) && node(w.New) && w.Old != w.New
}

func noSwap(w api.Wish) bool {
	return w.Old == 0 && w.New == 0
}

// seal tells whether a wish is a chunk's own: nobody asked for it.
func seal(w api.Wish) bool {
	return w.Client == 0 && w.Stamp == 0 && chunk(w.Group) && w.Block == 0
}

// next tells whether nodes are as many as a crew's, rising.
func next(l []int) bool {
	if len(l) > api.MaxCrew || len(l)%3 != 1 {
		return false
	}
	last := 0
	for _, n := range l {
		if !node(n) || n <= last {
			return false
		}
		last = n
	}
	return true
}

func chunk(n int) bool {
	return within(n, 1, api.MaxChunks)
}

func node(n int) bool {
	return within(n, 1, api.MaxNodes)
}

func within(n, least, most int) bool {
	return n >= least && n <= most
}
