package note

import (
	"bastide/api"
	"bastide/bin"
	"bastide/wish"
)

const (
	longestNumber = 8       // bytes of a number
	longestBatch  = 1 << 10 // bytes; those of each of its wishes are fewer than 128
)

// reader takes fields off bytes. Where bytes are bad nothing is left, so that whatever is read behind that is bad, too.
type reader struct {
	rest []byte
	bad  bool
}

func (r *reader) number(n *int) {
	near := r.near(longestNumber)
	v, left, e := bin.TakeNum(near)
	*n = v
	r.took(len(near)-len(left), e)
}

func (r *reader) digest(d *api.Digest) {
	near := r.near(len(d))
	v, left, e := bin.TakeFix(near, len(d))
	copy(d[:], v)
	r.took(len(near)-len(left), e)
}

// text reads a text; one without bytes is nil, as it is in a note that has none.
func (r *reader) text(b *[]byte, most int) {
	near := r.near(longestNumber + most)
	v, left, e := bin.TakeStr(near, most)
	if len(v) > 0 {
		*b = v
	}
	r.took(len(near)-len(left), e)
}

func (r *reader) batch(l *[]api.Wish) {
	var b []byte
	r.text(&b, longestBatch)
	v, e := wish.Unbatch(b)
	*l = v
	r.took(0, e)
}

// count reads how many elements there are said to be: of too many none is made.
func (r *reader) count(_, most int) int {
	var many int
	r.number(&many)
	if many > most {
		r.took(0, api.ErrLimit)
		return 0
	}
	return many
}

// near is as much of what is left as a field may need: bin copies all that it is shown.
func (r *reader) near(most int) []byte {
	return r.rest[:min(len(r.rest), most)]
}

func (r *reader) took(used int, e api.Errno) {
	r.rest = r.rest[used:]
	if e != api.OK {
		r.rest, r.bad = nil, true
	}
}
