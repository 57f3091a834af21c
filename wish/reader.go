package wish

import (
	"bastide/api"
	"bastide/bin"
)

const (
	longestNumber = 8   // bytes of a number
	longestWish   = 256 // bytes that a batch's text may have
)

// reader gathers what bytes say, in order; its first error stays, and behind it nothing is read.
type reader struct {
	rest []byte
	err  api.Errno
}

// wish reads a wish, which need not be one that may be.
func (r *reader) wish() api.Wish {
	w := api.Wish{
		Kind:   r.number(),
		Client: r.number(),
		Stamp:  r.number(),
		Group:  r.number(),
		Epoch:  r.number(),
		Block:  r.number(),
		Data:   r.text(api.BlockSize),
		Old:    r.number(),
		New:    r.number(),
	}
	for range r.count(api.MaxCrew) {
		w.Next = append(w.Next, r.number())
	}
	return w
}

// packed reads a wish that stands in a text of its own.
func (r *reader) packed() api.Wish {
	b := r.text(longestWish)
	if r.err != api.OK {
		return api.Wish{}
	}
	w, e := Parse(b)
	r.err = e
	return w
}

// number reads a number; bin is shown no more than this may be, as it copies what is left.
func (r *reader) number() int {
	if r.err != api.OK {
		return 0
	}
	near := r.near(longestNumber)
	n, left, e := bin.TakeNum(near)
	r.took(len(near)-len(left), e)
	return n
}

// text reads a text of at most so many bytes; one without bytes is nil, as it is in a wish that has none.
func (r *reader) text(most int) []byte {
	if r.err != api.OK {
		return nil
	}
	near := r.near(longestNumber + most)
	s, left, e := bin.TakeStr(near, most)
	r.took(len(near)-len(left), e)
	if len(s) == 0 {
		return nil
	}
	return s
}

// count reads how many there are, of which at most so many may be.
func (r *reader) count(most int) int {
	n := r.number()
	if n > most {
		r.err = api.ErrLimit
		return 0
	}
	return n
}

// end is where nothing may be left.
func (r *reader) end() {
	if r.err == api.OK && len(r.rest) > 0 {
		r.err = api.ErrSyntax
	}
}

func (r *reader) near(most int) []byte {
	return r.rest[:min(len(r.rest), most)]
}

func (r *reader) took(used int, e api.Errno) {
	r.rest, r.err = r.rest[used:], e
}
