package note

import (
	"bastide/api"
	"bastide/bin"
	"bastide/wish"
)

// writer puts fields together as bytes. It is shown notes, and changes, that may be alone: neither bin nor wish refuses anything of these.
type writer struct {
	out []byte
}

func (w *writer) number(n *int) {
	b, _ := bin.Num(*n)
	w.out = append(w.out, b...)
}

func (w *writer) digest(d *api.Digest) {
	w.out = append(w.out, d[:]...)
}

func (w *writer) text(b *[]byte, _ int) {
	t, _ := bin.Str(*b)
	w.out = append(w.out, t...)
}

func (w *writer) batch(l *[]api.Wish) {
	b, _ := wish.Batch(*l)
	w.text(&b, len(b))
}

func (w *writer) count(many, _ int) int {
	w.number(&many)
	return many
}
