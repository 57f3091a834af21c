package ink

import (
	"bytes"
	"crypto/sha256"
	"strings"
	"testing"

	"bastide/api"
	"bastide/sha"
)

// stands looks at all that a book tells.
func stands(t *testing.T, what string, b *Book, many, asked int, clash bool) {
	t.Helper()
	if b.Len() != many || b.Asked() != asked || b.Clash() != clash {
		t.Errorf("%s: Len %d, Asked %d, Clash %v, not %d, %d, %v", what, b.Len(), b.Asked(), b.Clash(), many, asked, clash)
	}
}

// of asks for a digest, and holds it against the library's.
func of(t *testing.T, b *Book, in []byte) api.Digest {
	t.Helper()
	d, e := b.Of(in)
	if e != api.OK || d != api.Digest(sha256.Sum256(in)) || d != sha.Of(in) {
		t.Errorf("Of(%d bytes): %x, %d", len(in), d, e)
	}
	return d
}

// inputs are n unlike ones, of lengths about those at which digests have more blocks.
func inputs(n int) [][]byte {
	out := [][]byte{nil}
	for i := 1; i < n; i++ {
		in := bytes.Repeat([]byte{byte(i)}, i%131)
		out = append(out, append(in, byte(i>>8), byte(i), 7))
	}
	return out
}

// P3.1

func TestNew(t *testing.T) {
	b := New()
	if b == nil {
		t.Fatal("no book")
	}
	stands(t, "a new book", b, 0, 0, false)
	of(t, b, []byte("abc"))
	stands(t, "a new one, beside one that has something", New(), 0, 0, false)
	stands(t, "the one that has something", b, 1, 1, false)
}

func TestNone(t *testing.T) {
	var none *Book
	for what, b := range map[string]*Book{"nil": none, "one that New did not make": {}, "a new zero one": new(Book)} {
		for _, in := range [][]byte{nil, {}, []byte("abc"), make([]byte, api.MaxBytes), make([]byte, api.MaxBytes+1)} {
			if d, e := b.Of(in); d != (api.Digest{}) || e != api.ErrNil {
				t.Errorf("%s: Of(%d bytes): %x, %d", what, len(in), d, e)
			}
			stands(t, what, b, 0, 0, false)
		}
	}
}

// P3.2

func TestOf(t *testing.T) {
	b := New()
	for i, c := range []struct {
		in          string
		many, asked int
	}{{"abc", 1, 1}, {"abc", 1, 2}, {"", 2, 3}, {"abd", 3, 4}, {"", 3, 5}, {"ab", 4, 6}, {"abc\x00", 5, 7}, {"\x00", 6, 8}, {"abc", 6, 9}} {
		of(t, b, []byte(c.in))
		stands(t, c.in, b, c.many, c.asked, false)
		if t.Failed() {
			t.Fatalf("row %d", i)
		}
	}
}

func TestNothingIsOneInput(t *testing.T) {
	b := New()
	of(t, b, nil)
	of(t, b, []byte{})
	of(t, b, []byte("abc")[3:])
	stands(t, "nothing, three times", b, 1, 3, false)
}

func TestOfGreat(t *testing.T) {
	b := New()
	last := make([]byte, api.MaxBytes)
	of(t, b, last)
	stands(t, "as many as may be", b, 1, 1, false)
	for _, n := range []int{api.MaxBytes + 1, 2 * api.MaxBytes, 1 << 20} {
		if d, e := b.Of(make([]byte, n)); d != (api.Digest{}) || e != api.ErrLimit {
			t.Errorf("Of(%d bytes): %x, %d", n, d, e)
		}
		stands(t, "too many", b, 1, 1, false)
	}
	of(t, b, last[:api.MaxBytes-1])
	of(t, b, last)
	stands(t, "one fewer, and the first again", b, 2, 3, false)
}

func TestClash(t *testing.T) {
	abc := sha.Of([]byte("abc"))
	b := New()
	b.note(abc, []byte("abd"))
	stands(t, "an input that has another one's digest", b, 1, 0, false)
	of(t, b, []byte("abd"))
	stands(t, "which stands at its own, too", b, 2, 1, false)
	of(t, b, []byte("abc"))
	stands(t, "that other one", b, 3, 2, true)

	b = New()
	for i, in := range []string{"", "x", "xx"} {
		b.note(abc, []byte(in))
		stands(t, "inputs with one digest", b, i+1, 0, i > 0)
	}
}

func TestClashOfNoughts(t *testing.T) {
	b := New()
	of(t, b, []byte("abc"))
	b.note(api.Digest{}, []byte("x"))
	stands(t, "one whose digest is noughts", b, 2, 1, true)

	b = New()
	b.note(api.Digest{}, nil)
	stands(t, "nothing, with such a digest", b, 1, 0, true)

	b = New()
	for i := range len(api.Digest{}) {
		var d api.Digest
		d[i] = 1
		b.note(d, []byte("x"+strings.Repeat("y", i)))
	}
	stands(t, "digests that are noughts but for one byte", b, len(api.Digest{}), 0, false)
}

// P3.3

func TestOfKeepsACopy(t *testing.T) {
	b := New()
	room := []byte("..xyz..")
	in := room[2:5]
	of(t, b, in)
	if string(room) != "..xyz.." {
		t.Errorf("changed: %q", room)
	}
	in[0] = 'q'
	of(t, b, []byte("xyz"))
	stands(t, "the input, behind a change of its memory", b, 1, 2, false)
	of(t, b, in)
	stands(t, "what its memory has now", b, 2, 3, false)
	copy(room, "01abc78")
	of(t, b, []byte("qyz"))
	of(t, b, []byte("xyz"))
	stands(t, "both again", b, 2, 5, false)
	if string(room) != "01abc78" {
		t.Errorf("changed: %q", room)
	}
}

func TestNotedIsACopy(t *testing.T) {
	b := New()
	var d api.Digest
	d[0] = 1
	in := []byte("xyz")
	b.note(d, in)
	in[0] = 'q'
	b.note(d, []byte("xyz"))
	stands(t, "the same, behind a change of its memory", b, 1, 0, false)
	b.note(d, in)
	stands(t, "what its memory has now", b, 2, 0, true)
}

// P3.4

func TestSameDigestJustIfSame(t *testing.T) {
	b := New()
	ins := inputs(500)
	var ds []api.Digest
	for i, in := range ins {
		ds = append(ds, of(t, b, in))
		stands(t, "unlike inputs", b, i+1, i+1, false)
	}
	for i := range ins {
		again := of(t, b, bytes.Clone(ins[i]))
		for j := range ins {
			if (again == ds[j]) != (i == j) {
				t.Fatalf("%d and %d: %x, %x", i, j, again, ds[j])
			}
		}
	}
	stands(t, "all of them again", b, len(ins), 2*len(ins), false)
}

// P3.5

func TestClashStays(t *testing.T) {
	b := New()
	b.note(sha.Of([]byte("abc")), []byte("abd"))
	of(t, b, []byte("abc"))
	stands(t, "a clash", b, 2, 1, true)
	for i, in := range inputs(50) {
		of(t, b, in)
		stands(t, "others behind a clash", b, 3+i, 2+i, true)
	}
	of(t, b, []byte("abc"))
	stands(t, "one of the two again", b, 52, 52, true)
	if _, e := b.Of(make([]byte, api.MaxBytes+1)); e != api.ErrLimit {
		t.Errorf("behind a clash: %d", e)
	}
	stands(t, "too many bytes behind a clash", b, 52, 52, true)
}

func TestSameInputAgain(t *testing.T) {
	b := New()
	of(t, b, []byte("abc"))
	of(t, b, []byte("abd"))
	for i := range 5 {
		of(t, b, []byte("abc"))
		stands(t, "the first again", b, 2, 3+i, false)
	}
	var d api.Digest
	d[31] = 1
	for _, in := range []string{"x", "y", "x", "y", "y"} {
		b.note(d, []byte(in))
	}
	stands(t, "inputs that clash, each again", b, 4, 7, true)
	for range 3 {
		b.note(api.Digest{}, []byte("z"))
		stands(t, "one whose digest is noughts, again", b, 5, 7, true)
	}
}
