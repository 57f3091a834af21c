package note

import "bastide/api"

// wiper makes all fields zero that it is shown: what is left then is what a note should not have.
type wiper struct{}

func (wiper) number(n *int) {
	*n = 0
}

func (wiper) digest(d *api.Digest) {
	*d = api.Digest{}
}

func (wiper) text(b *[]byte, _ int) {
	*b = nil
}

func (wiper) batch(l *[]api.Wish) {
	*l = nil
}

func (wiper) count(_, _ int) int {
	return 0
}
