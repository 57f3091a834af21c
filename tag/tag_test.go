package tag

import (
	"math"
	"slices"
	"sync"
	"testing"

	"bastide/api"
)

var a, b = api.Digest{1}, api.Digest{2}

// noNames are numbers that neither writers nor readers have; 0 is everybody.
var noNames = []int{math.MinInt, -1 << 32, -35, -34, -1, 35, 36, 64, 257, 1<<32 + 1, math.MaxInt}

// tagged tags what may be tagged.
func tagged(t *testing.T, l *Ledger, from, to int, d api.Digest) {
	t.Helper()
	if e := l.Tag(from, to, d); e != api.OK {
		t.Errorf("Tag(%d, %d, %x): %d", from, to, d[:1], e)
	}
}

// vector tags what may be tagged for some.
func vector(t *testing.T, l *Ledger, from int, readers []int, d api.Digest) {
	t.Helper()
	if e := l.Vector(from, readers, d); e != api.OK {
		t.Errorf("Vector(%d, %v, %x): %d", from, readers, d[:1], e)
	}
}

// check asks whether it is tagged, and whether it was counted that this was asked.
func check(t *testing.T, l *Ledger, from, to int, d api.Digest, want bool) {
	t.Helper()
	asked := l.Asked()
	if got := l.Check(from, to, d); got != want {
		t.Errorf("Check(%d, %d, %x): %v", from, to, d[:1], got)
	}
	if l.Asked() != asked+1 {
		t.Errorf("Check(%d, %d, %x): Asked %d behind %d", from, to, d[:1], l.Asked(), asked)
	}
}

// stands looks at all that is counted.
func stands(t *testing.T, what string, l *Ledger, many, asked int) {
	t.Helper()
	if l.Len() != many || l.Asked() != asked {
		t.Errorf("%s: Len %d, Asked %d, not %d, %d", what, l.Len(), l.Asked(), many, asked)
	}
}

// tells are the answers to all that can be asked of some digests, by names and by others.
func tells(l *Ledger, ds ...api.Digest) []bool {
	var out []bool
	for _, d := range ds {
		for from := -1; from <= api.Steward+1; from++ {
			for to := -1; to <= api.Steward+1; to++ {
				out = append(out, l.Check(from, to, d))
			}
		}
	}
	return out
}

// names are all of them.
func names() []int {
	var out []int
	for n := 1; n <= api.Steward; n++ {
		out = append(out, n)
	}
	return out
}

// P4.1

func TestNew(t *testing.T) {
	l := New()
	if l == nil {
		t.Fatal("no ledger")
	}
	stands(t, "a new ledger", l, 0, 0)
	if slices.Contains(tells(l, a, api.Digest{}), true) {
		t.Error("a new ledger has a tag")
	}
	stands(t, "a new ledger, behind questions", l, 0, 2*37*37)
	tagged(t, l, 1, 2, a)
	other := New()
	stands(t, "another new one", other, 0, 0)
	check(t, other, 1, 2, a, false)
	stands(t, "the first, behind what another one was asked", l, 1, 2*37*37)
}

func TestNone(t *testing.T) {
	var none *Ledger
	for what, l := range map[string]*Ledger{"nil": none, "one that New did not make": {}, "a new zero one": new(Ledger)} {
		for _, from := range append([]int{0, 1, 34}, noNames...) {
			for _, to := range append([]int{0, 1, 34}, noNames...) {
				if e := l.Tag(from, to, a); e != api.ErrNil {
					t.Errorf("%s: Tag(%d, %d): %d", what, from, to, e)
				}
				if l.Check(from, to, a) {
					t.Errorf("%s: Check(%d, %d)", what, from, to)
				}
			}
			for _, readers := range [][]int{nil, {}, {2}, {2, 0}, {-1}, make([]int, 35)} {
				if e := l.Vector(from, readers, a); e != api.ErrNil {
					t.Errorf("%s: Vector(%d, %v): %d", what, from, readers, e)
				}
			}
		}
		stands(t, what, l, 0, 0)
	}
}

// P4.2

func TestTag(t *testing.T) {
	l := New()
	many := 0
	for _, d := range []api.Digest{a, {}, {31: 1}} {
		for _, from := range names() {
			for to := range api.Steward + 1 {
				tagged(t, l, from, to, d)
				if many++; l.Len() != many {
					t.Fatalf("Tag(%d, %d, %x): Len %d", from, to, d, l.Len())
				}
			}
		}
	}
	for _, from := range names() {
		tagged(t, l, from, 0, a)
		tagged(t, l, from, from, a)
	}
	stands(t, "each once", l, many, 0)
}

func TestTagRefuses(t *testing.T) {
	l := New()
	tagged(t, l, 3, 4, a)
	refuses := func(from, to int) {
		t.Helper()
		if e := l.Tag(from, to, b); e != api.ErrArg {
			t.Errorf("Tag(%d, %d): %d", from, to, e)
		}
		stands(t, "behind what was refused", l, 1, 0)
	}
	for _, no := range noNames {
		for to := range api.Steward + 1 {
			refuses(no, to)
		}
		for _, from := range names() {
			refuses(from, no)
		}
		refuses(no, no)
		refuses(0, no)
	}
	for to := range api.Steward + 1 {
		refuses(0, to)
	}
	for _, no := range noNames {
		check(t, l, no, 1, b, false)
		check(t, l, 1, no, b, false)
	}
	check(t, l, 3, 4, a, true)
}

func TestVector(t *testing.T) {
	l := New()
	vector(t, l, 1, []int{2, 3}, b)
	stands(t, "for two", l, 2, 0)
	for _, from := range names() {
		for _, to := range names() {
			check(t, l, from, to, b, from == 1 && (to == 2 || to == 3))
			check(t, l, from, to, a, false)
		}
		check(t, l, from, 0, b, false)
	}
	vector(t, l, 34, names(), a)
	if l.Len() != 36 {
		t.Errorf("for each name: Len %d", l.Len())
	}
	for _, from := range names() {
		for _, to := range names() {
			check(t, l, from, to, a, from == 34)
		}
		check(t, l, from, 0, a, false)
	}
}

func TestVectorForNobody(t *testing.T) {
	l := New()
	for _, from := range names() {
		vector(t, l, from, nil, a)
		vector(t, l, from, []int{}, a)
	}
	stands(t, "for nobody", l, 0, 0)
	if slices.Contains(tells(l, a), true) {
		t.Error("for nobody, and there is one")
	}
}

func TestVectorNamesOneTwice(t *testing.T) {
	l := New()
	vector(t, l, 5, []int{6, 7, 6, 6}, a)
	stands(t, "a reader more than once", l, 2, 0)
	vector(t, l, 5, slices.Repeat([]int{8}, 34), a)
	stands(t, "a reader 34 times", l, 3, 0)
	vector(t, l, 5, []int{5}, a)
	stands(t, "oneself", l, 4, 0)
	for _, to := range names() {
		check(t, l, 5, to, a, 5 <= to && to <= 8)
	}
}

func TestVectorRefuses(t *testing.T) {
	l := New()
	tagged(t, l, 3, 4, a)
	refuses := func(from int, readers []int) {
		t.Helper()
		if e := l.Vector(from, readers, b); e != api.ErrArg {
			t.Errorf("Vector(%d, %v): %d", from, readers, e)
		}
		stands(t, "behind what was refused", l, 1, 0)
	}
	for _, no := range append([]int{0}, noNames...) {
		refuses(no, []int{2, 3})
		refuses(no, nil)
		for at := range 34 {
			readers := names()
			readers[at] = no
			refuses(1, readers)
			refuses(no, readers)
		}
		refuses(1, []int{no})
		refuses(1, []int{2, no})
		refuses(1, []int{no, 2})
	}
	refuses(1, slices.Repeat([]int{2}, 35))
	refuses(1, append(names(), 1))
	refuses(1, make([]int, 1<<20))
	if slices.Contains(tells(l, b), true) {
		t.Error("refused, and there is one")
	}
}

// P4.3

func TestCheck(t *testing.T) {
	l := New()
	tagged(t, l, 1, 2, a)
	tagged(t, l, 31, 0, a)
	for _, from := range append(names(), append([]int{0}, noNames...)...) {
		for _, to := range append(names(), append([]int{0}, noNames...)...) {
			check(t, l, from, to, a, from == 1 && to == 2 || from == 31)
			check(t, l, from, to, b, false)
			check(t, l, from, to, api.Digest{}, false)
		}
	}
}

func TestCheckHoldsWholeDigests(t *testing.T) {
	for at := range len(api.Digest{}) {
		for bit := range 8 {
			l := New()
			d := api.Digest{}
			d[at] = 1 << bit
			tagged(t, l, 1, 2, d)
			tagged(t, l, 1, 0, api.Digest{0: 0xFF, 31: 0xFF})
			check(t, l, 1, 2, d, true)
			check(t, l, 1, 2, api.Digest{}, false)
			d[at] = 1 << ((bit + 1) % 8)
			check(t, l, 1, 2, d, false)
		}
	}
}

func TestLen(t *testing.T) {
	l := New()
	for i, c := range []struct {
		from, to int
		d        api.Digest
		many     int
	}{{1, 2, a, 1}, {1, 2, a, 1}, {2, 1, a, 2}, {1, 0, a, 3}, {1, 2, b, 4}, {1, 0, a, 4}, {1, 35, a, 4}, {1, 2, api.Digest{}, 5}, {2, 2, a, 6}} {
		l.Tag(c.from, c.to, c.d)
		l.Check(c.from, c.to, c.d)
		stands(t, "row", l, c.many, i+1)
	}
}

func TestAsked(t *testing.T) {
	l := New()
	tagged(t, l, 1, 2, a)
	vector(t, l, 1, []int{3, 4}, a)
	l.Tag(0, 0, a)
	l.Vector(1, []int{0}, a)
	stands(t, "nothing was asked", l, 3, 0)
	for i, to := range []int{2, 2, 3, 5, 0, 35, -1} {
		l.Check(1, to, a)
		stands(t, "asked", l, 3, i+1)
	}
}

func TestAskedAtOnce(t *testing.T) {
	l := New()
	tagged(t, l, 1, 2, a)
	var all sync.WaitGroup
	for range 8 {
		all.Go(func() {
			for range 5000 {
				l.Check(1, 2, a)
			}
		})
	}
	all.Wait()
	stands(t, "asked by eight at once", l, 1, 8*5000)
}

// P4.4

func TestReadersAreOnlyRead(t *testing.T) {
	l := New()
	room := []int{9, 2, 3, 9, 9}
	readers := room[1:3]
	vector(t, l, 1, readers, a)
	if !slices.Equal(room, []int{9, 2, 3, 9, 9}) {
		t.Errorf("changed: %v", room)
	}
	readers[0], readers[1] = 7, 8
	for _, to := range names() {
		check(t, l, 1, to, a, to == 2 || to == 3)
	}
	room = []int{3, 2, 0, 4}
	if e := l.Vector(1, room[:3], a); e != api.ErrArg || !slices.Equal(room, []int{3, 2, 0, 4}) {
		t.Errorf("%d, and %v", e, room)
	}
	vector(t, l, 1, readers, a)
	stands(t, "what the list has now, too", l, 4, 34)
}

// P4.5

func TestNobodyTagsForAnother(t *testing.T) {
	for _, one := range names() {
		l := New()
		for _, from := range names() {
			if from != one {
				tagged(t, l, from, 0, a)
				tagged(t, l, from, one, a)
				vector(t, l, from, names(), a)
			}
		}
		tagged(t, l, one, 0, b)
		for to := range api.Steward + 1 {
			check(t, l, one, to, a, false)
		}
	}
}

func TestTagStays(t *testing.T) {
	l := New()
	tagged(t, l, 1, 2, a)
	tagged(t, l, 4, 0, b)
	before := tells(l, a, b)
	for n := range 1000 {
		d := api.Digest{3, byte(n), byte(n >> 8)}
		tagged(t, l, 1+n%34, n%35, d)
		vector(t, l, 1+n%34, names()[n%34:], d)
		l.Tag(0, 1, a)
		l.Vector(1, []int{2, 35}, a)
	}
	if !slices.Equal(tells(l, a, b), before) {
		t.Error("others changed what there was")
	}
}

// P4.6

func TestVectorIsTagForEach(t *testing.T) {
	for _, readers := range [][]int{nil, {2}, {2, 3}, {3, 2, 3}, {34, 1, 17}, names()} {
		one, each := New(), New()
		vector(t, one, 7, readers, a)
		for _, to := range readers {
			tagged(t, each, 7, to, a)
		}
		if one.Len() != each.Len() || !slices.Equal(tells(one, a, b), tells(each, a, b)) {
			t.Errorf("%v: %d, %d", readers, one.Len(), each.Len())
		}
		vector(t, each, 7, readers, a)
		if one.Len() != each.Len() {
			t.Errorf("%v, both ways: %d, %d", readers, one.Len(), each.Len())
		}
	}
}

func TestNoOrder(t *testing.T) {
	type said struct {
		from, to int
		d        api.Digest
	}
	all := []said{{1, 2, a}, {1, 0, a}, {2, 1, a}, {1, 2, b}, {1, 2, a}}
	var want []bool
	var turn func(left []said, done []said)
	turn = func(left []said, done []said) {
		for i := range left {
			turn(slices.Concat(left[:i], left[i+1:]), append(slices.Clone(done), left[i]))
		}
		if len(left) > 0 {
			return
		}
		l := New()
		for _, x := range done {
			tagged(t, l, x.from, x.to, x.d)
		}
		got := tells(l, a, b)
		if want == nil {
			want = got
		}
		if l.Len() != 4 || !slices.Equal(got, want) {
			t.Errorf("%v: another ledger, of %d", done, l.Len())
		}
	}
	turn(all, nil)
}

func TestEverybodyIsEach(t *testing.T) {
	l := New()
	tagged(t, l, 31, 0, a)
	stands(t, "one for everybody", l, 1, 0)
	for _, to := range append(names(), append([]int{0}, noNames...)...) {
		check(t, l, 31, to, a, true)
		check(t, l, 31, to, b, false)
		check(t, l, 32, to, a, false)
	}
	vector(t, l, 31, names(), b)
	check(t, l, 31, 0, b, false)
	stands(t, "each is not everybody", l, 35, 3*46+1)
}

// The chapter's examples.

func TestExamples(t *testing.T) {
	l := New()
	tagged(t, l, 1, 2, a)
	check(t, l, 1, 2, a, true)
	check(t, l, 1, 3, a, false)
	check(t, l, 2, 1, a, false)
	check(t, l, 1, 2, b, false)
	tagged(t, l, 31, 0, a)
	check(t, l, 31, 9, a, true)
	vector(t, l, 1, []int{2, 3}, b)
	check(t, l, 1, 3, b, true)
	stands(t, "the second row", l, 4, 6)
	for i, e := range []api.Errno{l.Tag(0, 1, a), l.Tag(1, 35, a), l.Vector(1, []int{2, 0}, b)} {
		if e != api.ErrArg {
			t.Errorf("%d: %d", i, e)
		}
	}
	stands(t, "the third row", l, 4, 6)
}
