package bin

import (
	"bytes"
	"math"
	"testing"

	"bastide/api"
)

// edges are the numbers at which the count of bytes changes, and those beside them.
func edges() []int {
	out := []int{0, 1, 2, 127, 128, 254, 255}
	for size := 1; size <= 6; size++ {
		n := 1 << (8 * size)
		out = append(out, n-1, n, n+1, n|0x80, 0x12345678ABCDEF>>(8*(6-size)))
	}
	return append(out, api.MaxBytes-1, api.MaxBytes, api.MaxBytes+1, api.MaxNumber-1, api.MaxNumber)
}

// samples are all strings of at most four of these bytes, and longer ones about seven-byte numbers.
func samples() [][]byte {
	alphabet := []byte{0, 1, 2, 3, 7, 8, 0x1F, 0x20, 0xFF}
	out := [][]byte{nil}
	for from, length := 0, 1; length <= 4; length++ {
		to := len(out)
		for ; from < to; from++ {
			for _, c := range alphabet {
				out = append(out, append(bytes.Clone(out[from]), c))
			}
		}
	}
	for _, first := range alphabet {
		for _, c := range alphabet {
			long := append([]byte{7, first}, bytes.Repeat([]byte{c}, 6)...)
			out = append(out, long[:7], long, append(bytes.Clone(long), 9))
		}
	}
	return out
}

func mustNum(t *testing.T, n int) []byte {
	t.Helper()
	b, e := Num(n)
	if e != api.OK {
		t.Fatalf("Num(%d): %d", n, e)
	}
	return b
}

func mustStr(t *testing.T, s []byte) []byte {
	t.Helper()
	b, e := Str(s)
	if e != api.OK {
		t.Fatalf("Str of %d bytes: %d", len(s), e)
	}
	return b
}

// P1.1

func TestNum(t *testing.T) {
	for _, c := range []struct {
		n    int
		want []byte
		e    api.Errno
	}{
		{0, []byte{0}, api.OK},
		{1, []byte{1, 1}, api.OK},
		{255, []byte{1, 255}, api.OK},
		{256, []byte{2, 1, 0}, api.OK},
		{65535, []byte{2, 255, 255}, api.OK},
		{65536, []byte{3, 1, 0, 0}, api.OK},
		{0x010203, []byte{3, 1, 2, 3}, api.OK},
		{1<<24 - 1, []byte{3, 255, 255, 255}, api.OK},
		{1 << 24, []byte{4, 1, 0, 0, 0}, api.OK},
		{1 << 32, []byte{5, 1, 0, 0, 0, 0}, api.OK},
		{1<<40 + 5, []byte{6, 1, 0, 0, 0, 0, 5}, api.OK},
		{1<<48 - 1, []byte{6, 255, 255, 255, 255, 255, 255}, api.OK},
		{1 << 48, []byte{7, 1, 0, 0, 0, 0, 0, 0}, api.OK},
		{0x1A2B3C4D5E6F70, []byte{7, 0x1A, 0x2B, 0x3C, 0x4D, 0x5E, 0x6F, 0x70}, api.OK},
		{1<<53 - 1, []byte{7, 0x1F, 255, 255, 255, 255, 255, 255}, api.OK},
		{1 << 53, nil, api.ErrRange},
		{-1, nil, api.ErrRange},
		{math.MaxInt, nil, api.ErrRange},
		{math.MinInt, nil, api.ErrRange},
	} {
		b, e := Num(c.n)
		if e != c.e || !bytes.Equal(b, c.want) {
			t.Errorf("Num(%d): %x, %d", c.n, b, e)
		}
	}
}

func TestStr(t *testing.T) {
	full := bytes.Repeat([]byte{0xA5}, api.MaxBytes)
	for _, c := range []struct {
		in, head []byte
	}{
		{nil, []byte{0}},
		{[]byte{}, []byte{0}},
		{[]byte{0}, []byte{1, 1}},
		{[]byte{0xAA, 0xBB}, []byte{1, 2}},
		{full[:255], []byte{1, 255}},
		{full[:256], []byte{2, 1, 0}},
		{full[:65535], []byte{2, 255, 255}},
		{full, []byte{3, 1, 0, 0}},
	} {
		b, e := Str(c.in)
		if e != api.OK || !bytes.Equal(b, append(c.head, c.in...)) {
			t.Errorf("Str of %d bytes: %d bytes, %d", len(c.in), len(b), e)
		}
	}
	for _, size := range []int{api.MaxBytes + 1, api.MaxBytes + 2, 1 << 20} {
		if b, e := Str(make([]byte, size)); e != api.ErrLimit || len(b) != 0 {
			t.Errorf("Str of %d bytes: %d bytes, %d", size, len(b), e)
		}
	}
}

func TestJoin(t *testing.T) {
	for i, c := range []struct {
		in   [][]byte
		want []byte
	}{
		{nil, nil},
		{[][]byte{nil, {}}, nil},
		{[][]byte{{1, 2}}, []byte{1, 2}},
		{[][]byte{{1}, nil, {2, 3}, {}, {0}}, []byte{1, 2, 3, 0}},
		{[][]byte{{3}, {1}, {3}}, []byte{3, 1, 3}},
	} {
		if got := Join(c.in...); !bytes.Equal(got, c.want) {
			t.Errorf("%d: %x", i, got)
		}
	}
	big := bytes.Repeat([]byte{7}, 2*api.MaxBytes)
	if got := Join(big, []byte{8}); len(got) != len(big)+1 || got[len(big)] != 8 {
		t.Errorf("of %d bytes and one: %d bytes", len(big), len(got))
	}
}

// P1.2

// badNumbers begin with no number; the first thing that is wrong, in the chapter's order, is the error.
func badNumbers() map[string]api.Errno {
	return map[string]api.Errno{
		"":                                     api.ErrTrunc,
		"\x08":                                 api.ErrSyntax,
		"\x08\x01\x01\x01\x01\x01\x01\x01\x01": api.ErrSyntax,
		"\x08\x00":                             api.ErrSyntax,
		"\x80\x01":                             api.ErrSyntax,
		"\xFF":                                 api.ErrSyntax,
		"\x01":                                 api.ErrTrunc,
		"\x02\x01":                             api.ErrTrunc,
		"\x02\x00":                             api.ErrTrunc,
		"\x07\x00\x01\x01\x01\x01\x01":         api.ErrTrunc,
		"\x07\x20\xFF\xFF\xFF\xFF\xFF":         api.ErrTrunc,
		"\x01\x00":                             api.ErrSyntax,
		"\x02\x00\x01":                         api.ErrSyntax,
		"\x01\x00\x05":                         api.ErrSyntax,
		"\x07\x00\xFF\xFF\xFF\xFF\xFF\xFF":     api.ErrSyntax,
		"\x07\x20\x00\x00\x00\x00\x00\x00":     api.ErrRange,
		"\x07\x20\x00\x00\x00\x00\x00\x00\x01": api.ErrRange,
		"\x07\xFF\xFF\xFF\xFF\xFF\xFF\xFF":     api.ErrRange,
		"\x07\x80\x00\x00\x00\x00\x00\x00":     api.ErrRange,
	}
}

func TestTakeNum(t *testing.T) {
	for _, c := range []struct {
		b    []byte
		n    int
		rest []byte
	}{
		{[]byte{0}, 0, nil},
		{[]byte{0, 0}, 0, []byte{0}},
		{[]byte{1, 1}, 1, nil},
		{[]byte{1, 255, 1, 1}, 255, []byte{1, 1}},
		{[]byte{2, 1, 0, 9}, 256, []byte{9}},
		{[]byte{3, 1, 2, 3, 4}, 0x010203, []byte{4}},
		{[]byte{6, 255, 255, 255, 255, 255, 255}, 1<<48 - 1, nil},
		{[]byte{7, 1, 0, 0, 0, 0, 0, 0}, 1 << 48, nil},
		{[]byte{7, 0x1F, 255, 255, 255, 255, 255, 255, 8}, 1<<53 - 1, []byte{8}},
	} {
		n, rest, e := TakeNum(c.b)
		if n != c.n || !bytes.Equal(rest, c.rest) || e != api.OK {
			t.Errorf("%x: %d, %x, %d", c.b, n, rest, e)
		}
	}
	for b, want := range badNumbers() {
		if n, rest, e := TakeNum([]byte(b)); n != 0 || len(rest) != 0 || e != want {
			t.Errorf("%x: %d, %x, %d", b, n, rest, e)
		}
	}
}

// P1.3

func TestTakeStr(t *testing.T) {
	full := bytes.Repeat([]byte{0xA5}, api.MaxBytes)
	whole := append([]byte{3, 1, 0, 0}, full...)
	over := append([]byte{3, 1, 0, 1}, make([]byte, api.MaxBytes+1)...)
	for i, c := range []struct {
		b       []byte
		most    int
		s, rest []byte
		e       api.Errno
	}{
		{[]byte{0}, 0, nil, nil, api.OK},
		{[]byte{0, 5}, 0, nil, []byte{5}, api.OK},
		{[]byte{1, 2, 0xAA, 0xBB, 0xCC}, 2, []byte{0xAA, 0xBB}, []byte{0xCC}, api.OK},
		{[]byte{1, 2, 0xAA, 0xBB}, 3, []byte{0xAA, 0xBB}, nil, api.OK},
		{append(bytes.Clone(whole), 6), api.MaxBytes, full, []byte{6}, api.OK},
		{whole, math.MaxInt, full, nil, api.OK},
		{[]byte{1, 2, 0xAA, 0xBB}, -1, nil, nil, api.ErrArg},
		{nil, -1, nil, nil, api.ErrArg},
		{[]byte{8}, math.MinInt, nil, nil, api.ErrArg},
		{[]byte{1, 2, 0xAA, 0xBB, 0xCC}, 1, nil, nil, api.ErrLimit},
		{[]byte{1, 1, 0xAA}, 0, nil, nil, api.ErrLimit},
		{[]byte{1, 2}, 1, nil, nil, api.ErrLimit},
		{whole, api.MaxBytes - 1, nil, nil, api.ErrLimit},
		{over, math.MaxInt, nil, nil, api.ErrLimit},
		{over[:4], math.MaxInt, nil, nil, api.ErrLimit},
		{[]byte{7, 0x1F, 255, 255, 255, 255, 255, 255}, math.MaxInt, nil, nil, api.ErrLimit},
		{[]byte{1, 2, 0xAA}, 9, nil, nil, api.ErrTrunc},
		{[]byte{1, 1}, 1, nil, nil, api.ErrTrunc},
		{whole[:len(whole)-1], api.MaxBytes, nil, nil, api.ErrTrunc},
	} {
		s, rest, e := TakeStr(c.b, c.most)
		if !bytes.Equal(s, c.s) || !bytes.Equal(rest, c.rest) || e != c.e {
			t.Errorf("%d: %d bytes, %d bytes, %d", i, len(s), len(rest), e)
		}
	}
	for b, want := range badNumbers() {
		for _, most := range []int{0, 9, math.MaxInt} {
			if s, rest, e := TakeStr([]byte(b), most); len(s) != 0 || len(rest) != 0 || e != want {
				t.Errorf("%x, %d: %x, %x, %d", b, most, s, rest, e)
			}
		}
	}
}

func TestTakeFix(t *testing.T) {
	big := bytes.Repeat([]byte{3}, 2*api.MaxBytes)
	for i, c := range []struct {
		b       []byte
		n       int
		s, rest []byte
		e       api.Errno
	}{
		{nil, 0, nil, nil, api.OK},
		{[]byte{0xAA}, 0, nil, []byte{0xAA}, api.OK},
		{[]byte{0xAA, 0xBB}, 1, []byte{0xAA}, []byte{0xBB}, api.OK},
		{[]byte{0xAA, 0xBB}, 2, []byte{0xAA, 0xBB}, nil, api.OK},
		{big, api.MaxBytes + 1, big[:api.MaxBytes+1], big[:api.MaxBytes-1], api.OK},
		{[]byte{0xAA}, 2, nil, nil, api.ErrTrunc},
		{nil, 1, nil, nil, api.ErrTrunc},
		{[]byte{0xAA}, math.MaxInt, nil, nil, api.ErrTrunc},
		{[]byte{0xAA}, -1, nil, nil, api.ErrArg},
		{nil, math.MinInt, nil, nil, api.ErrArg},
	} {
		s, rest, e := TakeFix(c.b, c.n)
		if !bytes.Equal(s, c.s) || !bytes.Equal(rest, c.rest) || e != c.e {
			t.Errorf("%d: %d bytes, %d bytes, %d", i, len(s), len(rest), e)
		}
	}
}

// P1.4

// spoil writes over a slice, and over its spare room.
func spoil(b []byte) {
	b = b[:cap(b)]
	for i := range b {
		b[i] ^= 0xFF
	}
}

// calls are all calls that answer bytes, each handed the same bytes: what they answer, list by list.
func calls() map[string]func(b []byte) [][]byte {
	return map[string]func(b []byte) [][]byte{
		"Str": func(b []byte) [][]byte { s, _ := Str(b); return [][]byte{s} },
		"TakeNum": func(b []byte) [][]byte {
			_, rest, _ := TakeNum(b)
			return [][]byte{rest}
		},
		"TakeStr": func(b []byte) [][]byte {
			s, rest, _ := TakeStr(b, api.MaxBytes)
			return [][]byte{s, rest}
		},
		"TakeFix": func(b []byte) [][]byte {
			s, rest, _ := TakeFix(b, 2)
			return [][]byte{s, rest}
		},
		"Join of one":  func(b []byte) [][]byte { return [][]byte{Join(b)} },
		"Join of more": func(b []byte) [][]byte { return [][]byte{Join(nil, b, b, nil)} },
	}
}

func TestMemory(t *testing.T) {
	for name, call := range calls() {
		for _, in := range [][]byte{{1, 2, 0xAA, 0xBB, 0xCC}, {1, 3, 1, 2, 3}, {0, 1}, {0}} {
			room := append(bytes.Clone(in), 0x11, 0x22, 0x33, 0x44, 0x55, 0x66)
			before := bytes.Clone(room)
			out := call(room[:len(in)])
			if !bytes.Equal(room, before) {
				t.Errorf("%s(%x) changed what it was handed: %x", name, in, room)
			}
			for i := range out {
				var others [][]byte
				for j := range out {
					others = append(others, bytes.Clone(out[j]))
				}
				spoil(out[i])
				if !bytes.Equal(room, before) {
					t.Errorf("%s(%x): list %d is in what was handed in", name, in, i)
				}
				for j := range out {
					if j != i && !bytes.Equal(out[j], others[j]) {
						t.Errorf("%s(%x): lists %d and %d share memory", name, in, i, j)
					}
				}
			}
		}
	}
}

func TestMemoryStays(t *testing.T) {
	for name, call := range calls() {
		in := []byte{1, 2, 0xAA, 0xBB, 0xCC}
		out := call(in)
		want := call(bytes.Clone(in))
		spoil(in)
		again := call([]byte{1, 1, 9, 9})
		for i := range out {
			if !bytes.Equal(out[i], want[i]) {
				t.Errorf("%s: list %d changed with what was handed in", name, i)
			}
			spoil(again[i])
			if !bytes.Equal(out[i], want[i]) {
				t.Errorf("%s: list %d changed with a later answer", name, i)
			}
		}
	}
	a, _ := Num(300)
	b, _ := Num(300)
	spoil(a)
	if !bytes.Equal(b, []byte{2, 1, 44}) {
		t.Errorf("two answers of Num share memory: %x", b)
	}
}

func TestJoinKeepsItsList(t *testing.T) {
	first, second := make([]byte, 2, 8), []byte{5}
	l := [][]byte{first, second}
	Join(l...)
	if !bytes.Equal(first[:8], make([]byte, 8)) || !bytes.Equal(second, []byte{5}) {
		t.Errorf("the spare room was written: %x", first[:8])
	}
	if len(l) != 2 || &l[0][0] != &first[0] || &l[1][0] != &second[0] {
		t.Error("the list was changed")
	}
}

// P1.5

func TestNumbersComeBack(t *testing.T) {
	numbers := edges()
	for n := range 1 << 17 {
		numbers = append(numbers, n)
	}
	for _, n := range numbers {
		b := mustNum(t, n)
		if got, rest, e := TakeNum(b); got != n || len(rest) != 0 || e != api.OK {
			t.Fatalf("%d, as %x: %d, %x, %d", n, b, got, rest, e)
		}
	}
}

func TestTextsComeBack(t *testing.T) {
	for _, size := range []int{0, 1, 2, 254, 255, 256, 257, 65534, 65535, 65536} {
		s := make([]byte, size)
		for i := range s {
			s[i] = byte(i * i >> 3)
		}
		b := mustStr(t, s)
		for _, most := range []int{size, size + 1, math.MaxInt} {
			if got, rest, e := TakeStr(b, most); !bytes.Equal(got, s) || len(rest) != 0 || e != api.OK {
				t.Errorf("%d bytes: %d bytes, %d bytes, %d", size, len(got), len(rest), e)
			}
		}
		if got, rest, e := TakeFix(s, size); !bytes.Equal(got, s) || len(rest) != 0 || e != api.OK {
			t.Errorf("%d bytes, fixed: %d bytes, %d bytes, %d", size, len(got), len(rest), e)
		}
	}
}

func TestOneForm(t *testing.T) {
	taken := 0
	for _, b := range samples() {
		if n, rest, e := TakeNum(b); e == api.OK {
			taken++
			if n < 0 || n > api.MaxNumber || !bytes.Equal(Join(mustNum(t, n), rest), b) {
				t.Errorf("%x: %d and %x, which is written otherwise", b, n, rest)
			}
		}
		if s, rest, e := TakeStr(b, api.MaxBytes); e == api.OK {
			taken++
			if !bytes.Equal(Join(mustStr(t, s), rest), b) {
				t.Errorf("%x: %x and %x, which is written otherwise", b, s, rest)
			}
		}
	}
	if taken < 1000 {
		t.Errorf("%d only of the samples were taken", taken)
	}
}

func TestNoBeginnings(t *testing.T) {
	var numbers, texts [][]byte
	for _, n := range append(edges(), 3, 7, 8, 0x0101, 0x010101) {
		numbers = append(numbers, mustNum(t, n))
	}
	for _, s := range [][]byte{nil, {0}, {1}, {0, 0}, {1, 1}, {1, 0}, {0, 0, 0}, make([]byte, 255), make([]byte, 256), make([]byte, 257)} {
		texts = append(texts, mustStr(t, s))
	}
	for _, all := range [][][]byte{numbers, texts} {
		for i, a := range all {
			for j, b := range all {
				if i != j && !bytes.Equal(a, b) && bytes.HasPrefix(b, a) {
					t.Errorf("%x is the beginning of %x", a, b)
				}
			}
		}
	}
}

// P1.6

func TestOrder(t *testing.T) {
	numbers := edges()
	for _, a := range numbers {
		for _, b := range numbers {
			x, y := mustNum(t, a), mustNum(t, b)
			if len(x) > len(y) && a <= b {
				t.Errorf("%d has more bytes than %d", a, b)
			}
			if len(x) == len(y) && (bytes.Compare(x, y) < 0) != (a < b) {
				t.Errorf("%x and %x: not in the order of %d and %d", x, y, a, b)
			}
		}
	}
	for n := 1; n < 1<<17; n++ {
		x, y := mustNum(t, n-1), mustNum(t, n)
		if len(x) > len(y) || len(x) == len(y) && bytes.Compare(x, y) >= 0 {
			t.Fatalf("%x is not ahead of %x", x, y)
		}
	}
}

// P1.7

func TestJoinOfJoins(t *testing.T) {
	parts := [][]byte{nil, {1}, {2, 3}, {}, {0}, {4, 5, 6}, bytes.Repeat([]byte{9}, 300)}
	whole := Join(parts...)
	for i := range len(parts) + 1 {
		for j := i; j <= len(parts); j++ {
			a, b, c := Join(parts[:i]...), Join(parts[i:j]...), Join(parts[j:]...)
			if !bytes.Equal(Join(a, Join(b, c)), whole) || !bytes.Equal(Join(Join(a, b), c), whole) || !bytes.Equal(Join(a, b, c), whole) {
				t.Errorf("cut at %d and %d: another one", i, j)
			}
		}
	}
}

func TestNothingBehindCounts(t *testing.T) {
	behind := [][]byte{nil, {0}, {1, 1}, {8}, {255, 255}, bytes.Repeat([]byte{7}, 300)}
	for _, n := range edges() {
		for _, z := range behind {
			if got, rest, e := TakeNum(Join(mustNum(t, n), z)); got != n || !bytes.Equal(rest, z) || e != api.OK {
				t.Errorf("%d ahead of %x: %d, %x, %d", n, z, got, rest, e)
			}
		}
	}
	for _, s := range [][]byte{nil, {0}, {1, 8, 0}, bytes.Repeat([]byte{2}, 256), bytes.Repeat([]byte{3}, api.MaxBytes)} {
		for _, z := range behind {
			if got, rest, e := TakeStr(Join(mustStr(t, s), z), len(s)); !bytes.Equal(got, s) || !bytes.Equal(rest, z) || e != api.OK {
				t.Errorf("%d bytes ahead of %x: %d bytes, %x, %d", len(s), z, len(got), rest, e)
			}
			if got, rest, e := TakeFix(Join(s, z), len(s)); !bytes.Equal(got, s) || !bytes.Equal(rest, z) || e != api.OK {
				t.Errorf("%d bytes, fixed, ahead of %x: %d bytes, %x, %d", len(s), z, len(got), rest, e)
			}
		}
	}
}

// TestFields takes off, one by one, what was joined.
func TestFields(t *testing.T) {
	b := Join(mustNum(t, 34), mustStr(t, []byte("wall")), []byte{1, 2, 3}, mustNum(t, 0), mustStr(t, nil), mustNum(t, api.MaxNumber))
	n, b, e1 := TakeNum(b)
	s, b, e2 := TakeStr(b, 16)
	f, b, e3 := TakeFix(b, 3)
	z, b, e4 := TakeNum(b)
	none, b, e5 := TakeStr(b, 16)
	m, b, e6 := TakeNum(b)
	if n != 34 || string(s) != "wall" || !bytes.Equal(f, []byte{1, 2, 3}) || z != 0 || len(none) != 0 || m != api.MaxNumber || len(b) != 0 {
		t.Errorf("%d, %q, %x, %d, %x, %d, %x", n, s, f, z, none, m, b)
	}
	for i, e := range []api.Errno{e1, e2, e3, e4, e5, e6} {
		if e != api.OK {
			t.Errorf("field %d: %d", i, e)
		}
	}
}
