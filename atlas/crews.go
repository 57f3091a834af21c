package atlas

import (
	"slices"

	"bastide/api"
	"bastide/crew"
)

// mostEpochs is how many a chunk may have.
const mostEpochs = 22

// chunk is who served a chunk, by epochs.
type chunk struct {
	epochs int // 0: there is no such chunk
	crews  [mostEpochs]api.Crew
}

// begin takes the crews of the first epochs into a new atlas, and tells whether they may be.
func (a *Atlas) begin(crews []api.Crew) bool {
	if len(crews) < 1 || len(crews) > api.MaxChunks {
		return false
	}
	for i, c := range crews {
		if crew.Check(c) != api.OK || c.Faults != crews[0].Faults {
			return false
		}
		a.directory = len(c.Nodes) // the directory has as many as each chunk
		if slices.ContainsFunc(c.Nodes, a.isUsed) {
			return false
		}
		a.chunks[i].add(c)
	}
	return true
}

// replace begins a chunk's next epoch, with another node in the stead of one.
func (a *Atlas) replace(c *chunk, old, next int) api.Errno {
	then, e := crew.Replace(c.last(), old, next)
	if e != api.OK || a.isUsed(next) {
		return api.ErrMap
	}
	if c.epochs == mostEpochs {
		return api.ErrLimit
	}
	c.add(then)
	return api.OK
}

// isUsed tells whether a node is the directory's, or serves, or served, some chunk.
func (a *Atlas) isUsed(node int) bool {
	used := node <= a.directory
	for i := range a.chunks {
		used = used || a.chunks[i].had(node)
	}
	return used
}

func (c *chunk) is() bool {
	return c.epochs > 0
}

func (c *chunk) epoch() int {
	return c.epochs - 1
}

func (c *chunk) last() api.Crew {
	return c.crews[c.epoch()]
}

func (c *chunk) had(node int) bool {
	return slices.ContainsFunc(c.crews[:c.epochs], func(x api.Crew) bool { return crew.Has(x, node) })
}

func (c *chunk) add(x api.Crew) {
	c.crews[c.epochs] = api.Crew{Faults: x.Faults, Nodes: slices.Clone(x.Nodes)}
	c.epochs++
}

// told is a copy of all crews.
func (c *chunk) told() []api.Crew {
	l := slices.Clone(c.crews[:c.epochs])
	for i := range l {
		l[i].Nodes = slices.Clone(l[i].Nodes)
	}
	return l
}

// gone is the node of a crew that another one has not.
func gone(c, other api.Crew) int {
	at := slices.IndexFunc(c.Nodes, func(n int) bool { return !crew.Has(other, n) })
	return c.Nodes[at]
}
