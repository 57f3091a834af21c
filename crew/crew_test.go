package crew

import (
	"fmt"
	"math"
	"math/bits"
	"math/rand"
	"reflect"
	"slices"
	"sync"
	"testing"

	"bastide/api"
)

// spill stands in spare room: it is a node, so that who reads too far finds one.
const spill = 11

// example is the chapter's C.
func example() api.Crew {
	return api.Crew{Faults: 1, Nodes: []int{2, 3, 5, 7}}
}

// crews are some that may be, of each size, at the edges and within.
func crews() []api.Crew {
	return []api.Crew{
		{Nodes: []int{1}}, {Nodes: []int{9}}, {Nodes: []int{28}},
		{Faults: 1, Nodes: []int{1, 2, 3, 4}}, example(), {Faults: 1, Nodes: []int{1, 10, 19, 28}}, {Faults: 1, Nodes: []int{25, 26, 27, 28}},
		{Faults: 2, Nodes: []int{1, 2, 3, 4, 5, 6, 7}}, {Faults: 2, Nodes: []int{1, 4, 9, 11, 16, 25, 28}}, {Faults: 2, Nodes: []int{22, 23, 24, 25, 26, 27, 28}},
	}
}

// wrapping is an f whose 3f + 1, wrapped round, is 2.
const wrapping = math.MinInt/3 - math.MaxInt/3 - 1

// noCrews are some that may not be, each for a reason of its own.
func noCrews() []api.Crew {
	return []api.Crew{
		{}, {Nodes: []int{}}, {Nodes: []int{1, 2}}, {Nodes: []int{1, 2, 3, 4}}, {Faults: 1},
		{Faults: 1, Nodes: []int{2}}, {Faults: 1, Nodes: []int{2, 3, 5}}, {Faults: 1, Nodes: []int{2, 3, 5, 7, 9}},
		{Faults: 2, Nodes: []int{2, 3, 5, 7}}, {Faults: 2, Nodes: []int{1, 2, 3, 4, 5, 6}}, {Faults: 2, Nodes: []int{1, 2, 3, 4, 5, 6, 7, 8}},
		{Faults: 3, Nodes: []int{1, 2, 3, 4, 5, 6, 7, 8, 9, 10}}, {Faults: 3, Nodes: []int{1, 2, 3, 4, 5, 6, 7}},
		{Faults: -1}, {Faults: -1, Nodes: []int{2}}, {Faults: -1, Nodes: []int{2, 3, 5, 7}}, {Faults: -2, Nodes: []int{1, 2, 3, 4, 5}},
		{Faults: math.MaxInt, Nodes: []int{2}}, {Faults: math.MinInt, Nodes: []int{2}}, {Faults: wrapping, Nodes: []int{1, 2}},
		{Faults: 1 << 32, Nodes: []int{2}}, {Faults: 1<<32 + 1, Nodes: []int{2, 3, 5, 7}},
		{Nodes: []int{0}}, {Nodes: []int{-1}}, {Nodes: []int{29}}, {Nodes: []int{math.MinInt}}, {Nodes: []int{math.MaxInt}}, {Nodes: []int{1<<32 + 1}},
		{Faults: 1, Nodes: []int{0, 3, 5, 7}}, {Faults: 1, Nodes: []int{-2, 3, 5, 7}}, {Faults: 1, Nodes: []int{2, 3, 5, 29}}, {Faults: 1, Nodes: []int{2, 3, 5, 31}},
		{Faults: 1, Nodes: []int{2, 2, 5, 7}}, {Faults: 1, Nodes: []int{2, 3, 3, 7}}, {Faults: 1, Nodes: []int{2, 3, 7, 7}}, {Faults: 1, Nodes: []int{2, 3, 5, 2}},
		{Faults: 1, Nodes: []int{3, 2, 5, 7}}, {Faults: 1, Nodes: []int{2, 5, 3, 7}}, {Faults: 1, Nodes: []int{2, 3, 7, 5}}, {Faults: 1, Nodes: []int{7, 5, 3, 2}},
		{Faults: 2, Nodes: []int{1, 2, 3, 4, 5, 7, 6}}, {Faults: 2, Nodes: []int{1, 1, 3, 4, 5, 6, 7}}, {Faults: 2, Nodes: []int{1, 2, 3, 4, 5, 6, 29}},
	}
}

// numbers are nodes and others, edges among them.
func numbers() []int {
	out := []int{math.MinInt, -1 << 32, 1<<32 + 2, 1<<53 - 1, math.MaxInt}
	for n := -3; n <= 35; n++ {
		out = append(out, n)
	}
	return out
}

// allOf are all rising lists of so many nodes from first to 28.
func allOf(many, first int) [][]int {
	if many == 0 {
		return [][]int{nil}
	}
	var out [][]int
	for n := first; n <= 28; n++ {
		for _, rest := range allOf(many-1, n+1) {
			out = append(out, append([]int{n}, rest...))
		}
	}
	return out
}

// orders are all orders of a list.
func orders(l []int) [][]int {
	if len(l) == 0 {
		return [][]int{nil}
	}
	var out [][]int
	for i := range l {
		for _, rest := range orders(slices.Delete(slices.Clone(l), i, i+1)) {
			out = append(out, append([]int{l[i]}, rest...))
		}
	}
	return out
}

// sets are all sets of so many nodes of a crew, as bits.
func sets(c api.Crew, many int) []uint64 {
	var out []uint64
	for chosen := range uint64(1) << len(c.Nodes) {
		if bits.OnesCount64(chosen) != many {
			continue
		}
		set := uint64(0)
		for i, n := range c.Nodes {
			if chosen>>i&1 == 1 {
				set |= 1 << n
			}
		}
		out = append(out, set)
	}
	return out
}

// sized looks at how many nodes a crew has, and has a test end that would go on without them.
func sized(t *testing.T, c api.Crew, faults int) {
	t.Helper()
	if c.Faults != faults || len(c.Nodes) != 3*faults+1 {
		t.Fatalf("%v is no crew of f %d", c, faults)
	}
}

// same tells whether two crews are the same one.
func same(a, b api.Crew) bool {
	return a.Faults == b.Faults && slices.Equal(a.Nodes, b.Nodes)
}

// none tells whether a crew is what stands beside an error.
func none(c api.Crew) bool {
	return c.Faults == 0 && len(c.Nodes) == 0
}

// roomy is a list with a node in its spare room, and what holds both.
func roomy(l []int) ([]int, []int) {
	all := append(slices.Clone(l), spill, spill, spill)
	return all[:len(l)], all
}

// spoil writes noughts over a list and its spare room.
func spoil(l []int) {
	clear(l[:cap(l)])
}

// P8.1

func TestCheck(t *testing.T) {
	for _, c := range crews() {
		if e := Check(c); e != api.OK {
			t.Errorf("%v: %d", c, e)
		}
	}
	for _, c := range noCrews() {
		if e := Check(c); e != api.ErrCrew {
			t.Errorf("%v: %d", c, e)
		}
	}
}

func TestCheckAllOfFour(t *testing.T) {
	for _, nodes := range allOf(4, 1) {
		c := api.Crew{Faults: 1, Nodes: nodes}
		if e := Check(c); e != api.OK {
			t.Fatalf("%v: %d", c, e)
		}
		for i := range nodes {
			for _, f := range []func(int) int{func(n int) int { return n - 28 }, func(n int) int { return n + 28 }} {
				other := slices.Clone(nodes)
				other[i] = f(other[i])
				if e := Check(api.Crew{Faults: 1, Nodes: other}); e != api.ErrCrew {
					t.Fatalf("%v: %d", other, e)
				}
			}
		}
	}
}

func TestCheckTwo(t *testing.T) {
	// Two neighbours within a crew of seven, each against each.
	for at := range 6 {
		for a := at + 1; a <= 28; a++ {
			for b := at + 1; b <= 28; b++ {
				nodes := []int{1, 2, 3, 4, 5, 6, 7}
				for i := at + 2; i < 7; i++ {
					nodes[i] = 28 - 6 + i
				}
				nodes[at], nodes[at+1] = a, b
				want := api.ErrCrew
				if a < b && (at == 5 || b < nodes[at+2]) {
					want = api.OK
				}
				if e := Check(api.Crew{Faults: 2, Nodes: nodes}); e != want {
					t.Errorf("%v: %d, not %d", nodes, e, want)
				}
			}
		}
	}
}

func TestMakeExamples(t *testing.T) {
	for _, x := range []struct {
		faults int
		nodes  []int
		want   api.Crew
		e      api.Errno
	}{
		{1, []int{7, 2, 5, 3}, example(), api.OK},
		{1, []int{1, 2, 3}, api.Crew{}, api.ErrArg},
		{1, []int{1, 1, 2, 3}, api.Crew{}, api.ErrArg},
		{0, []int{9}, api.Crew{Nodes: []int{9}}, api.OK},
	} {
		if c, e := Make(x.faults, x.nodes); e != x.e || !same(c, x.want) {
			t.Errorf("Make(%d, %v): %v, %d", x.faults, x.nodes, c, e)
		}
	}
}

func TestMakeOrders(t *testing.T) {
	for _, want := range crews() {
		for _, nodes := range orders(want.Nodes) {
			c, e := Make(want.Faults, nodes)
			if e != api.OK || !same(c, want) || Check(c) != api.OK {
				t.Fatalf("Make(%d, %v): %v, %d", want.Faults, nodes, c, e)
			}
		}
	}
}

func TestMakeAgainstCheck(t *testing.T) {
	r := rand.New(rand.NewSource(1))
	made := 0
	for range 20000 {
		faults := r.Intn(5) - 1
		many := max(0, 3*faults+1)
		if r.Intn(10) == 0 {
			many = r.Intn(12)
		}
		nodes := make([]int, many)
		for i := range nodes {
			nodes[i] = r.Intn(30)
		}
		want, e := api.Crew{Faults: faults, Nodes: slices.Sorted(slices.Values(nodes))}, api.OK
		if Check(want) != api.OK {
			want, e = api.Crew{}, api.ErrArg
		} else {
			made++
		}
		if c, got := Make(faults, nodes); got != e || !same(c, want) {
			t.Fatalf("Make(%d, %v): %v, %d", faults, nodes, c, got)
		}
	}
	if made < 1000 {
		t.Errorf("%d crews were made alone", made)
	}
}

func TestMakeRefuses(t *testing.T) {
	for _, x := range noCrews() {
		// What only the order spoils is mended by Make.
		if Check(api.Crew{Faults: x.Faults, Nodes: slices.Sorted(slices.Values(x.Nodes))}) == api.OK {
			continue
		}
		for _, nodes := range [][]int{x.Nodes, slices.Sorted(slices.Values(x.Nodes))} {
			if c, e := Make(x.Faults, nodes); e != api.ErrArg || !none(c) {
				t.Errorf("Make(%d, %v): %v, %d", x.Faults, nodes, c, e)
			}
		}
	}
}

func TestMakeOfLongLists(t *testing.T) {
	for _, many := range []int{8, 28, 1 << 16, 1 << 20} {
		for faults := -1; faults <= 3; faults++ {
			if c, e := Make(faults, make([]int, many)); e != api.ErrArg || !none(c) {
				t.Errorf("Make(%d, %d noughts): %v, %d", faults, many, c, e)
			}
		}
	}
}

func TestOfNoCrewNothingIsTold(t *testing.T) {
	for _, c := range noCrews() {
		first := 1
		if len(c.Nodes) > 0 {
			first = c.Nodes[0]
		}
		what := fmt.Sprintf("%v", c)
		if Most(c) != 0 || Some(c) != 0 || Votes(c, c.Nodes) != 0 || Votes(c, []int{1, 2, 3}) != 0 {
			t.Errorf("%s: %d, %d, %d", what, Most(c), Some(c), Votes(c, c.Nodes))
		}
		for _, n := range append(numbers(), c.Nodes...) {
			if Leader(c, n) != 0 || Has(c, n) || len(Others(c, n)) != 0 {
				t.Errorf("%s, %d: %d, %v, %v", what, n, Leader(c, n), Has(c, n), Others(c, n))
			}
			for _, old := range []int{first, n} {
				if d, e := Replace(c, old, n); e != api.ErrCrew || !none(d) {
					t.Errorf("%s: Replace(%d, %d): %v, %d", what, old, n, d, e)
				}
			}
			for _, reached := range [][]int{nil, c.Nodes, {n, n, n, n}} {
				if got, e := Rank(c, reached, n); e != api.ErrCrew || got != 0 {
					t.Errorf("%s: Rank(%v, %d): %d, %d", what, reached, n, got, e)
				}
			}
		}
	}
}

// P8.2

func TestExamples(t *testing.T) {
	c := example()
	for what, x := range map[string]struct{ got, want int }{
		"Most(C)":       {Most(c), 3},
		"Some(C)":       {Some(c), 2},
		"Leader(C, 0)":  {Leader(c, 0), 2},
		"Leader(C, 6)":  {Leader(c, 6), 5},
		"Leader(C, -1)": {Leader(c, -1), 0},
		"Votes(C, ..)":  {Votes(c, []int{2, 2, 9, 7}), 2},
	} {
		if x.got != x.want {
			t.Errorf("%s: %d, not %d", what, x.got, x.want)
		}
	}
	if l := Others(c, 3); !slices.Equal(l, []int{2, 5, 7}) {
		t.Errorf("Others(C, 3): %v", l)
	}
	if l := Others(c, 4); !slices.Equal(l, c.Nodes) {
		t.Errorf("Others(C, 4): %v", l)
	}
	if n, e := Rank(c, []int{4, 9, 1, 6}, 2); n != 6 || e != api.OK {
		t.Errorf("Rank(C, (4, 9, 1, 6), 2): %d, %d", n, e)
	}
}

func TestMostAndSome(t *testing.T) {
	for faults, want := range []struct{ most, some int }{{1, 1}, {3, 2}, {5, 3}} {
		seen := 0
		for _, c := range crews() {
			if c.Faults != faults {
				continue
			}
			seen++
			if Most(c) != want.most || Some(c) != want.some {
				t.Errorf("%v: %d, %d", c, Most(c), Some(c))
			}
		}
		if seen == 0 {
			t.Errorf("no crew of f %d", faults)
		}
	}
}

func TestLeader(t *testing.T) {
	for _, c := range crews() {
		for _, view := range []int{0, 1, 2, 3, 4, 5, 6, 7, 8, 27, 28, 29, 255, 256, api.MaxView - 1, api.MaxView, api.MaxView + 1, 1<<32 + 3, api.MaxNumber, math.MaxInt - 1, math.MaxInt} {
			if got := Leader(c, view); got != c.Nodes[view%(3*c.Faults+1)] {
				t.Errorf("%v, %d: %d", c, view, got)
			}
		}
		for _, view := range []int{-1, -2, -3, -4, -7, -28, -api.MaxView, -1 << 32, math.MinInt + 1, math.MinInt} {
			if got := Leader(c, view); got != 0 {
				t.Errorf("%v, %d: %d", c, view, got)
			}
		}
	}
}

func TestHas(t *testing.T) {
	for _, c := range crews() {
		for _, n := range numbers() {
			if got := Has(c, n); got != slices.Contains(c.Nodes, n) {
				t.Errorf("%v, %d: %v", c, n, got)
			}
		}
	}
}

func TestHasAllOfFour(t *testing.T) {
	for _, nodes := range allOf(4, 1) {
		c := api.Crew{Faults: 1, Nodes: nodes}
		for n := range 30 {
			if Has(c, n) != slices.Contains(nodes, n) {
				t.Fatalf("%v, %d: %v", nodes, n, Has(c, n))
			}
		}
	}
}

func TestOthers(t *testing.T) {
	for _, c := range crews() {
		for _, n := range numbers() {
			want := slices.DeleteFunc(slices.Clone(c.Nodes), func(m int) bool { return m == n })
			if got := Others(c, n); !slices.Equal(got, want) {
				t.Errorf("%v, %d: %v", c, n, got)
			}
		}
	}
}

// P8.3

func TestReplaceExamples(t *testing.T) {
	c := example()
	for _, x := range []struct {
		old, next int
		want      api.Crew
		e         api.Errno
	}{
		{3, 4, api.Crew{Faults: 1, Nodes: []int{2, 4, 5, 7}}, api.OK},
		{4, 6, api.Crew{}, api.ErrCrew},
		{3, 5, api.Crew{}, api.ErrCrew},
		{2, 28, api.Crew{Faults: 1, Nodes: []int{3, 5, 7, 28}}, api.OK},
		{7, 1, api.Crew{Faults: 1, Nodes: []int{1, 2, 3, 5}}, api.OK},
		{3, 3, api.Crew{}, api.ErrCrew},  // next is one already, be it the old one
		{4, 4, api.Crew{}, api.ErrCrew},  // old is none
		{3, 0, api.Crew{}, api.ErrArg},   // next is no node
		{3, 29, api.Crew{}, api.ErrArg},  // next is no node
		{9, 0, api.Crew{}, api.ErrArg},   // next is looked at ahead of old
		{0, 29, api.Crew{}, api.ErrArg},  // next is looked at ahead of old
		{0, 4, api.Crew{}, api.ErrCrew},  // old is no node: it is none of these
		{29, 4, api.Crew{}, api.ErrCrew}, // old is no node: it is none of these
	} {
		if d, e := Replace(c, x.old, x.next); e != x.e || !same(d, x.want) {
			t.Errorf("Replace(C, %d, %d): %v, %d", x.old, x.next, d, e)
		}
	}
}

func TestReplace(t *testing.T) {
	for _, c := range crews() {
		for _, old := range numbers() {
			for _, next := range numbers() {
				want, e := api.Crew{}, api.OK
				switch {
				case next < 1 || next > 28:
					e = api.ErrArg
				case !slices.Contains(c.Nodes, old) || slices.Contains(c.Nodes, next):
					e = api.ErrCrew
				default:
					want = api.Crew{Faults: c.Faults, Nodes: slices.Clone(c.Nodes)}
					want.Nodes[slices.Index(want.Nodes, old)] = next
					slices.Sort(want.Nodes)
				}
				d, got := Replace(c, old, next)
				if got != e || !same(d, want) {
					t.Errorf("Replace(%v, %d, %d): %v, %d", c, old, next, d, got)
				}
				if got == api.OK && Check(d) != api.OK {
					t.Errorf("Replace(%v, %d, %d): %v may not be", c, old, next, d)
				}
			}
		}
	}
}

func TestVotes(t *testing.T) {
	c := example()
	for _, x := range []struct {
		l    []int
		want int
	}{
		{nil, 0}, {[]int{}, 0}, {[]int{2}, 1}, {[]int{7}, 1}, {[]int{2, 2}, 1}, {[]int{2, 2, 9, 7}, 2}, {[]int{7, 5, 3, 2}, 4}, {[]int{2, 3, 5, 7, 2, 3, 5, 7}, 4},
		{[]int{0, 1, 4, 6, 8, 28, 29, -2}, 0}, {[]int{math.MinInt, 3, math.MaxInt, 3}, 1}, {[]int{1<<32 + 2, -1<<32 + 2}, 0}, {[]int{9, 9, 9, 9, 5}, 1},
	} {
		if got := Votes(c, x.l); got != x.want {
			t.Errorf("Votes(C, %v): %d", x.l, got)
		}
	}
}

func TestVotesOfAny(t *testing.T) {
	r := rand.New(rand.NewSource(2))
	for _, c := range crews() {
		if got := Votes(c, numbers()); got != len(c.Nodes) {
			t.Errorf("%v, all: %d", c, got)
		}
		for range 500 {
			l := make([]int, r.Intn(20))
			for i := range l {
				l[i] = r.Intn(34) - 2
			}
			want := 0
			for _, n := range c.Nodes {
				if slices.Contains(l, n) {
					want++
				}
			}
			if got := Votes(c, l); got != want {
				t.Fatalf("%v, %v: %d, not %d", c, l, got, want)
			}
		}
	}
}

func TestVotesOfLongLists(t *testing.T) {
	c := example()
	l := make([]int, 1<<20)
	if got := Votes(c, l); got != 0 {
		t.Errorf("noughts: %d", got)
	}
	for i := range l {
		l[i] = 5
	}
	if got := Votes(c, l); got != 1 {
		t.Errorf("fives: %d", got)
	}
	l[len(l)-1] = 7
	if got := Votes(c, l); got != 2 {
		t.Errorf("fives, and a seven at the end: %d", got)
	}
}

func TestRank(t *testing.T) {
	c := example()
	for _, x := range []struct {
		reached []int
		many    int
		want    int
	}{
		{[]int{4, 9, 1, 6}, 1, 9}, {[]int{4, 9, 1, 6}, 2, 6}, {[]int{4, 9, 1, 6}, 3, 4}, {[]int{4, 9, 1, 6}, 4, 1},
		{[]int{5, 5, 5, 5}, 1, 5}, {[]int{5, 5, 5, 5}, 4, 5}, {[]int{5, 9, 9, 1}, 2, 9}, {[]int{5, 9, 9, 1}, 3, 5},
		{[]int{0, 0, 0, 0}, 2, 0}, {[]int{-4, -9, -1, -6}, 1, -1}, {[]int{-4, -9, -1, -6}, 4, -9},
		{[]int{math.MinInt, math.MaxInt, 0, -1}, 1, math.MaxInt}, {[]int{math.MinInt, math.MaxInt, 0, -1}, 2, 0}, {[]int{math.MinInt, math.MaxInt, 0, -1}, 3, -1}, {[]int{math.MinInt, math.MaxInt, 0, -1}, 4, math.MinInt},
		{[]int{10, 9, 100, 2}, 1, 100}, {[]int{10, 9, 100, 2}, 2, 10}, {[]int{1 << 32, 1, 2, 3}, 1, 1 << 32},
	} {
		if n, e := Rank(c, x.reached, x.many); n != x.want || e != api.OK {
			t.Errorf("Rank(C, %v, %d): %d, %d", x.reached, x.many, n, e)
		}
	}
	if n, e := Rank(api.Crew{Nodes: []int{9}}, []int{-7}, 1); n != -7 || e != api.OK {
		t.Errorf("of one: %d, %d", n, e)
	}
}

func TestRankRefuses(t *testing.T) {
	for _, c := range crews() {
		whole := slices.Repeat([]int{3}, len(c.Nodes))
		for _, many := range append(numbers(), math.MinInt+1, math.MaxInt-1) {
			if 1 <= many && many <= len(c.Nodes) {
				continue
			}
			if n, e := Rank(c, whole, many); n != 0 || e != api.ErrArg {
				t.Errorf("Rank(%v, %v, %d): %d, %d", c, whole, many, n, e)
			}
		}
		for _, size := range []int{0, 1, 2, 3, 4, 5, 6, 7, 8, 28, 1 << 16} {
			if size == len(c.Nodes) {
				continue
			}
			for _, many := range []int{0, 1, size, len(c.Nodes)} {
				if n, e := Rank(c, slices.Repeat([]int{3}, size), many); n != 0 || e != api.ErrArg {
					t.Errorf("Rank(%v, %d threes, %d): %d, %d", c, size, many, n, e)
				}
			}
		}
	}
}

// P8.4

func TestOnlyRead(t *testing.T) {
	nodes, room := roomy([]int{2, 3, 5, 7})
	mixed, mixedRoom := roomy([]int{7, 2, 5, 3})
	l, listRoom := roomy([]int{4, 9, 2, 7})
	before := [][]int{slices.Clone(room), slices.Clone(mixedRoom), slices.Clone(listRoom)}
	c := api.Crew{Faults: 1, Nodes: nodes}
	unchanged := func(what string) {
		t.Helper()
		if !slices.Equal(room, before[0]) || !slices.Equal(mixedRoom, before[1]) || !slices.Equal(listRoom, before[2]) {
			t.Fatalf("%s: what was handed in was changed", what)
		}
	}
	Check(c)
	unchanged("Check")
	Make(1, mixed)
	unchanged("Make")
	Make(1, l[:3])
	unchanged("Make of too few")
	Most(c)
	Some(c)
	Leader(c, 3)
	unchanged("Most, Some, Leader")
	for _, n := range numbers() {
		Has(c, n)
		unchanged("Has")
		Others(c, n)
		unchanged("Others")
		for _, old := range nodes {
			Replace(c, old, n)
			unchanged("Replace")
		}
	}
	Votes(c, l)
	unchanged("Votes")
	for many := range 6 {
		Rank(c, l, many)
		unchanged("Rank")
	}
}

func TestSpareRoomDoesNotCount(t *testing.T) {
	nodes, _ := roomy([]int{2, 3, 5, 7})
	c := api.Crew{Faults: 1, Nodes: nodes}
	l, _ := roomy([]int{2, 9})
	if Has(c, spill) || Votes(c, []int{spill}) != 0 || Votes(c, l) != 1 || len(Others(c, spill)) != 4 || Leader(c, 4) != 2 {
		t.Error("what stands in the spare room counts")
	}
	if _, e := Rank(c, l, 1); e != api.ErrArg {
		t.Errorf("Rank of too few, with spare room: %d", e)
	}
	if _, e := Make(1, nodes[:3]); e != api.ErrArg {
		t.Errorf("Make of too few, with spare room: %d", e)
	}
}

func TestAnswersAreNew(t *testing.T) {
	for _, want := range crews() {
		nodes, room := roomy(want.Nodes)
		c, before := api.Crew{Faults: want.Faults, Nodes: nodes}, slices.Clone(room)
		made, e := Make(c.Faults, c.Nodes)
		if e != api.OK || !same(made, want) {
			t.Fatalf("%v: %v, %d", want, made, e)
		}
		answers := [][]int{made.Nodes, Others(c, 0), Others(c, 0)}
		for _, n := range c.Nodes {
			answers = append(answers, Others(c, n))
			for next := 1; next <= 28; next++ {
				if d, e := Replace(c, n, next); e == api.OK {
					answers = append(answers, d.Nodes)
				}
			}
		}
		kept := make([][]int, len(answers))
		for i := range answers {
			kept[i] = slices.Clone(answers[i])
		}
		for i := range answers {
			spoil(answers[i])
			if !slices.Equal(room, before) {
				t.Fatalf("%v: an answer shares with what was handed in", want)
			}
			for j := i + 1; j < len(answers); j++ {
				if !slices.Equal(answers[j], kept[j]) {
					t.Fatalf("%v: two answers share", want)
				}
			}
		}
	}
}

func TestNothingIsKept(t *testing.T) {
	nodes := []int{7, 2, 5, 3}
	c, e := Make(1, nodes)
	if e != api.OK {
		t.Fatalf("%d", e)
	}
	others, votes := Others(c, 3), []int{2, 3}
	replaced, _ := Replace(c, 3, 4)
	if n := Votes(c, votes); n != 2 {
		t.Errorf("%d", n)
	}
	spoil(nodes)
	spoil(votes)
	if !same(c, example()) || Votes(c, votes) != 0 {
		t.Errorf("what was handed in was changed: %v", c)
	}
	copy(c.Nodes, []int{10, 20, 21, 22})
	if !slices.Equal(others, []int{2, 5, 7}) || !slices.Equal(replaced.Nodes, []int{2, 4, 5, 7}) {
		t.Errorf("the crew was changed: %v, %v", others, replaced)
	}
	if Has(c, 2) || !Has(c, 20) || Leader(c, 1) != 20 || !slices.Equal(Others(c, 20), []int{10, 21, 22}) {
		t.Error("the crew was changed: the one that was counts")
	}
	c.Nodes[3] = 21
	if Check(c) != api.ErrCrew || Most(c) != 0 || Has(c, 10) {
		t.Error("the crew may not be any more")
	}
}

func TestSideBySide(t *testing.T) {
	c := example()
	want := tells(c)
	var all sync.WaitGroup
	for range 8 {
		all.Go(func() {
			for range 20 {
				if !reflect.DeepEqual(tells(c), want) {
					t.Error("side by side with others: other answers")
				}
			}
		})
	}
	all.Wait()
}

// tells are many answers of a crew.
func tells(c api.Crew) []any {
	out := []any{Check(c), Most(c), Some(c), Votes(c, []int{7, 9, 2})}
	for _, n := range numbers() {
		d, e := Replace(c, 3, n)
		rank, f := Rank(c, []int{n, 4, 9, -n}, 2)
		out = append(out, Leader(c, n), Has(c, n), Others(c, n), d, e, rank, f)
	}
	return out
}

// P8.5

func TestMostHaveACorrectOneInCommon(t *testing.T) {
	for _, c := range crews() {
		liars := sets(c, c.Faults)
		for _, a := range sets(c, Most(c)) {
			for _, b := range sets(c, Most(c)) {
				if bits.OnesCount64(a&b) < Some(c) {
					t.Fatalf("%v: %b and %b have too few in common", c, a, b)
				}
				for _, lie := range liars {
					if a&b&^lie == 0 {
						t.Fatalf("%v: %b and %b have but the liars %b in common", c, a, b, lie)
					}
				}
			}
		}
	}
}

func TestSomeHaveACorrectOne(t *testing.T) {
	for _, c := range crews() {
		liars := sets(c, c.Faults)
		for _, a := range sets(c, Some(c)) {
			for _, lie := range liars {
				if a&^lie == 0 {
					t.Fatalf("%v: of %b all are liars", c, a)
				}
			}
		}
		// Liars alone are never enough, and those who do not lie always are.
		if c.Faults >= Some(c) || len(c.Nodes)-c.Faults < Most(c) {
			t.Errorf("%v: %d, %d", c, Some(c), Most(c))
		}
	}
}

func TestMostOfTheNextCrew(t *testing.T) {
	for _, c := range crews() {
		for _, old := range c.Nodes {
			for _, next := range []int{1, 8, 12, 28} {
				d, e := Replace(c, old, next)
				if slices.Contains(c.Nodes, next) {
					continue
				}
				if e != api.OK {
					t.Fatalf("Replace(%v, %d, %d): %d", c, old, next, e)
				}
				sized(t, d, c.Faults)
				for _, a := range sets(c, Most(c)) {
					for _, b := range sets(d, Most(d)) {
						if bits.OnesCount64(a&b) < c.Faults {
							t.Fatalf("%b of %v, %b of %v: fewer than f in common", a, c, b, d)
						}
					}
				}
			}
		}
	}
}

func TestVotesOfSets(t *testing.T) {
	for _, c := range crews() {
		for many := range len(c.Nodes) + 1 {
			for _, set := range sets(c, many) {
				l := []int{30, 0, -1}
				for n := 1; n <= 28; n++ {
					if set>>n&1 == 1 {
						l = append(l, n, n)
					}
				}
				if got := Votes(c, l); got != many {
					t.Fatalf("%v, %v: %d", c, l, got)
				}
			}
		}
	}
}

// P8.6

func TestEachLeadsOnce(t *testing.T) {
	for _, c := range crews() {
		many := len(c.Nodes)
		for _, first := range []int{0, 1, 2, 3, 5, 6, 100, 257, api.MaxView - many + 1, api.MaxView, 1 << 40, math.MaxInt - many + 1} {
			var leaders []int
			for i := range many {
				leaders = append(leaders, Leader(c, first+i))
			}
			slices.Sort(leaders)
			if !slices.Equal(leaders, c.Nodes) {
				t.Errorf("%v, from the view %d on: %v", c, first, leaders)
			}
		}
	}
}

// P8.7

// reachedBy is how many numbers are n, or above it.
func reachedBy(l []int, n int) int {
	many := 0
	for _, x := range l {
		if x >= n {
			many++
		}
	}
	return many
}

// someNumbers are so many: far apart, close together, or at the edges.
func someNumbers(r *rand.Rand, many int) []int {
	l := make([]int, many)
	for i := range l {
		switch r.Intn(4) {
		case 0:
			l[i] = r.Intn(4)
		case 1:
			l[i] = r.Intn(1<<40) - 1<<39
		case 2:
			l[i] = int(r.Uint64())
		default:
			l[i] = []int{math.MinInt, math.MinInt + 1, -1, 0, 1, math.MaxInt - 1, math.MaxInt}[r.Intn(7)]
		}
	}
	return l
}

func TestRankIsReached(t *testing.T) {
	r := rand.New(rand.NewSource(3))
	for _, c := range crews() {
		for range 2000 {
			reached := someNumbers(r, len(c.Nodes))
			last := math.MaxInt
			for many := 1; many <= len(c.Nodes); many++ {
				n, e := Rank(c, reached, many)
				if e != api.OK || reachedBy(reached, n) < many {
					t.Fatalf("Rank(%v, %v, %d): %d, %d: not reached", c, reached, many, n, e)
				}
				if n < math.MaxInt && reachedBy(reached, n+1) >= many {
					t.Fatalf("Rank(%v, %v, %d): %d, and more is reached", c, reached, many, n)
				}
				if n > last {
					t.Fatalf("Rank(%v, %v, %d): %d, of fewer %d", c, reached, many, n, last)
				}
				last = n
			}
		}
	}
}

func TestRankDoesNotFall(t *testing.T) {
	r := rand.New(rand.NewSource(4))
	for _, c := range crews() {
		for range 1000 {
			reached := someNumbers(r, len(c.Nodes))
			risen := slices.Clone(reached)
			at := r.Intn(len(risen))
			risen[at] = max(risen[at], someNumbers(r, 1)[0])
			for many := 1; many <= len(c.Nodes); many++ {
				a, e := Rank(c, reached, many)
				b, f := Rank(c, risen, many)
				if e != api.OK || f != api.OK || b < a {
					t.Fatalf("%v, %d: of %v %d, %d; of %v %d, %d", c, many, reached, a, e, risen, b, f)
				}
			}
		}
	}
}

func TestRankOfAnyOrder(t *testing.T) {
	c := example()
	for _, numbers := range [][]int{{4, 9, 1, 6}, {4, 4, 1, 6}, {0, 0, -1, math.MaxInt}} {
		for many := 1; many <= 4; many++ {
			want, e := Rank(c, numbers, many)
			for _, l := range orders(numbers) {
				if n, f := Rank(c, l, many); n != want || f != e {
					t.Errorf("Rank(C, %v, %d): %d, %d, not %d", l, many, n, f, want)
				}
			}
		}
	}
}

// P8.8

func TestReplaceThereAndBack(t *testing.T) {
	for _, c := range crews() {
		for _, old := range c.Nodes {
			for next := 1; next <= 28; next++ {
				if slices.Contains(c.Nodes, next) {
					continue
				}
				d, e := Replace(c, old, next)
				back, f := Replace(d, next, old)
				if e != api.OK || f != api.OK || same(d, c) || !same(back, c) {
					t.Errorf("%v: %d for %d: %v, %d; and back: %v, %d", c, next, old, d, e, back, f)
				}
			}
		}
	}
}

func TestReplaceAll(t *testing.T) {
	// One crew becomes another, node by node, whatever the order.
	r := rand.New(rand.NewSource(5))
	for range 300 {
		faults := r.Intn(3)
		l := r.Perm(28)
		for i := range l {
			l[i]++
		}
		many := 3*faults + 1
		c, e := Make(faults, l[:many])
		for i := range many {
			var f api.Errno
			c, f = Replace(c, l[i], l[many+i])
			if e != api.OK || f != api.OK {
				t.Fatalf("%v: %d, %d", l, e, f)
			}
		}
		if want, _ := Make(faults, l[many:2*many]); !same(c, want) {
			t.Fatalf("%v, not %v", c, want)
		}
	}
}
