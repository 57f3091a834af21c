package lists

import (
	"bytes"
	"math"
	"math/rand"
	"slices"
	"testing"

	"bastide/api"
)

func TestNumbers(t *testing.T) {
	for _, c := range []struct {
		l    []int
		want []byte
	}{
		{nil, nil}, {[]int{0}, []byte{0}}, {[]int{0, 0, 1}, []byte{0, 0, 1, 1}}, {[]int{256, 255}, []byte{2, 1, 0, 1, 255}},
		{[]int{api.MaxNumber, 7}, []byte{7, 31, 255, 255, 255, 255, 255, 255, 1, 7}},
	} {
		b := Numbers(c.l...)
		if !bytes.Equal(b, c.want) {
			t.Errorf("Numbers(%v): %x, not %x", c.l, b, c.want)
		}
		if l, ok := TakeNumbers(b); !ok || !slices.Equal(l, c.l) {
			t.Errorf("TakeNumbers(%x): %v, %v", b, l, ok)
		}
	}
	if b := Numbers(3, -1, api.MaxNumber+1, 4); !bytes.Equal(b, []byte{1, 3, 1, 4}) {
		t.Errorf("of what is no number: %x", b)
	}
}

func TestTakeNumbersRefuses(t *testing.T) {
	for _, bad := range [][]byte{{1}, {2, 1}, {7, 1, 1, 1, 1, 1, 1}, {8}, {255}, {1, 0}, {2, 0, 1}, {7, 32, 0, 0, 0, 0, 0, 0}} {
		for _, ahead := range [][]byte{nil, {0}, {1, 5, 0}, Numbers(api.MaxNumber, api.MaxNumber)} {
			if l, ok := TakeNumbers(slices.Concat(ahead, bad)); ok || l != nil {
				t.Errorf("TakeNumbers(%x, %x): %v, %v", ahead, bad, l, ok)
			}
		}
	}
}

func TestTexts(t *testing.T) {
	long := bytes.Repeat([]byte{9}, 300)
	for _, c := range []struct {
		l    [][]byte
		want []byte
	}{
		{nil, nil}, {[][]byte{nil}, []byte{0}}, {[][]byte{{}, {1, 2}}, []byte{0, 1, 2, 1, 2}}, {[][]byte{long, {0}}, slices.Concat([]byte{2, 1, 44}, long, []byte{1, 1, 0})},
	} {
		b := Texts(c.l...)
		if !bytes.Equal(b, c.want) {
			t.Errorf("Texts(%x): %x, not %x", c.l, b, c.want)
		}
		for _, most := range []int{300, api.MaxBytes, api.MaxBytes + 1, math.MaxInt} {
			if l, e := TakeTexts(b, len(c.l), most); e != api.OK || !slices.EqualFunc(l, c.l, bytes.Equal) {
				t.Errorf("TakeTexts(%x): %x, %d", b, l, e)
			}
		}
	}
	if b := Texts([]byte{3}, make([]byte, api.MaxBytes+1), []byte{4}); !bytes.Equal(b, []byte{1, 1, 3, 1, 1, 4}) {
		t.Errorf("of what is no text: %d bytes", len(b))
	}
}

func TestTakeTextsRefuses(t *testing.T) {
	full := Texts(bytes.Repeat([]byte{1}, 5), bytes.Repeat([]byte{2}, 5))
	for n := range full {
		if l, e := TakeTexts(full[:n], 2, 5); l != nil || e != api.ErrTrunc {
			t.Errorf("TakeTexts of %d bytes: %x, %d", n, l, e)
		}
	}
	for _, c := range []struct {
		b          []byte
		many, most int
		want       api.Errno
	}{
		{full, 2, 4, api.ErrLimit}, {full, 2, 0, api.ErrLimit}, {full, 2, -1, api.ErrArg}, {full, 2, math.MinInt, api.ErrArg},
		{full, 1, 5, api.ErrSyntax}, {full, 0, 5, api.ErrSyntax}, {full, -1, 5, api.ErrSyntax}, {full, 3, 5, api.ErrTrunc}, {append(slices.Clone(full), 0), 2, 5, api.ErrSyntax},
		{nil, 1, 5, api.ErrTrunc}, {[]byte{8}, 1, 5, api.ErrSyntax}, {[]byte{1, 0}, 1, 5, api.ErrSyntax}, {[]byte{7, 32, 0, 0, 0, 0, 0, 0}, 1, 5, api.ErrRange},
		{slices.Concat([]byte{3, 1, 0, 1}, make([]byte, 1<<17)), 1, math.MaxInt, api.ErrLimit},
	} {
		if l, e := TakeTexts(c.b, c.many, c.most); l != nil || e != c.want {
			t.Errorf("TakeTexts(%.50x, %d, %d): %x, %d, not %d", c.b, c.many, c.most, l, e, c.want)
		}
	}
}

// TestWhatIsTakenIsNew: what was taken stays, whatever becomes of the bytes.
func TestWhatIsTakenIsNew(t *testing.T) {
	b := Texts([]byte{1, 2}, []byte{3})
	l, _ := TakeTexts(b, 2, 2)
	clear(b)
	if !bytes.Equal(l[0], []byte{1, 2}) || !bytes.Equal(l[1], []byte{3}) {
		t.Errorf("%x", l)
	}
	l[0] = append(l[0], 9)
	if !bytes.Equal(l[1], []byte{3}) {
		t.Error("two texts share memory")
	}
}

func TestThereAndBack(t *testing.T) {
	r := rand.New(rand.NewSource(1))
	for range 2000 {
		var l []int
		var s [][]byte
		for range r.Intn(9) {
			l = append(l, r.Intn(api.MaxNumber)>>r.Intn(53))
			s = append(s, bytes.Repeat([]byte{byte(r.Intn(256))}, r.Intn(400)))
		}
		if back, ok := TakeNumbers(Numbers(l...)); !ok || !slices.Equal(back, l) {
			t.Fatalf("%v: %v, %v", l, back, ok)
		}
		if back, e := TakeTexts(Texts(s...), len(s), 400); e != api.OK || !slices.EqualFunc(back, s, bytes.Equal) {
			t.Fatalf("%x: %x, %d", s, back, e)
		}
	}
}
