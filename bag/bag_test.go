package bag

import (
	"bytes"
	"math"
	"math/rand"
	"slices"
	"strconv"
	"sync"
	"testing"

	"bastide/api"
)

// noNames are numbers that neither writers nor readers have.
var noNames = []int{math.MinInt, -1 << 32, -35, -34, -1, 0, 35, 36, 64, 65, 257, 1<<32 + 1, math.MaxInt}

// noPlaces are numbers that no note has in a bag of n.
func noPlaces(n int) []int {
	return []int{n, n + 1, -1, -2, api.MaxBag, api.MaxBag + 1, 1 << 32, -1 << 32, math.MaxInt, math.MinInt}
}

func letter(from, to int, text string) api.Envelope {
	return api.Envelope{From: from, To: to, Bytes: []byte(text)}
}

func alike(a, b api.Envelope) bool {
	return a.From == b.From && a.To == b.To && bytes.Equal(a.Bytes, b.Bytes)
}

func isZero(e api.Envelope) bool {
	return e.From == 0 && e.To == 0 && len(e.Bytes) == 0
}

// put puts what may be put.
func put(t *testing.T, b *Bag, all ...api.Envelope) {
	t.Helper()
	for _, e := range all {
		if err := b.Put(e); err != api.OK {
			t.Fatalf("Put(%d to %d, %d bytes): %d", e.From, e.To, len(e.Bytes), err)
		}
	}
}

// take takes what is there.
func take(t *testing.T, b *Bag, i int, want api.Envelope) {
	t.Helper()
	if e, err := b.Take(i); err != api.OK || !alike(e, want) {
		t.Fatalf("Take(%d): %v, %d, not %v", i, e, err, want)
	}
}

// drop and double do so with what is there.
func drop(t *testing.T, b *Bag, i int) {
	t.Helper()
	if e := b.Drop(i); e != api.OK {
		t.Fatalf("Drop(%d): %d", i, e)
	}
}

func double(t *testing.T, b *Bag, i int) {
	t.Helper()
	if e := b.Double(i); e != api.OK {
		t.Fatalf("Double(%d): %d", i, e)
	}
}

// counts looks at all that is counted.
func counts(t *testing.T, what string, b *Bag, many, sent, lost int) {
	t.Helper()
	if b.Len() != many || b.Sent() != sent || b.Lost() != lost {
		t.Fatalf("%s: Len %d, Sent %d, Lost %d, not %d, %d, %d", what, b.Len(), b.Sent(), b.Lost(), many, sent, lost)
	}
}

// has looks at all notes of a bag.
func has(t *testing.T, what string, b *Bag, want ...api.Envelope) {
	t.Helper()
	if b.Len() != len(want) {
		t.Fatalf("%s: Len %d, not %d", what, b.Len(), len(want))
	}
	for i, w := range want {
		if e, err := b.Look(i); err != api.OK || !alike(e, w) {
			t.Fatalf("%s: Look(%d): %v, %d, not %v", what, i, e, err, w)
		}
	}
}

// lacks asks for an i-th note that there is not, in each way.
func lacks(t *testing.T, what string, b *Bag, i int, want api.Errno) {
	t.Helper()
	if e, err := b.Look(i); err != want || !isZero(e) {
		t.Errorf("%s: Look(%d): %v, %d", what, i, e, err)
	}
	if e, err := b.Take(i); err != want || !isZero(e) {
		t.Errorf("%s: Take(%d): %v, %d", what, i, e, err)
	}
	if err := b.Drop(i); err != want {
		t.Errorf("%s: Drop(%d): %d", what, i, err)
	}
	if err := b.Double(i); err != want {
		t.Errorf("%s: Double(%d): %d", what, i, err)
	}
}

// filled is a bag of n notes, whose texts are their numbers.
func filled(t *testing.T, n int) (*Bag, []api.Envelope) {
	t.Helper()
	b := New()
	var all []api.Envelope
	for i := range n {
		all = append(all, letter(1+i%34, 1+i/34%34, strconv.Itoa(i)))
	}
	put(t, b, all...)
	return b, all
}

// P13.1

func TestNew(t *testing.T) {
	b := New()
	if b == nil {
		t.Fatal("no bag")
	}
	counts(t, "a new bag", b, 0, 0, 0)
	for _, set := range []int{0, 2, -1, math.MaxInt, math.MinInt} {
		if at := b.Next(set); at != -1 {
			t.Errorf("a new bag: Next(%x): %d", set, at)
		}
	}
	for _, i := range noPlaces(0) {
		lacks(t, "a new bag", b, i, api.ErrRange)
	}
	put(t, b, letter(1, 2, "a"), letter(1, 2, "b"))
	drop(t, b, 0)
	counts(t, "another new one", New(), 0, 0, 0)
	counts(t, "the first", b, 1, 2, 1)
}

func TestNone(t *testing.T) {
	var none *Bag
	for what, b := range map[string]*Bag{"nil": none, "one that New did not make": {}, "a new zero one": new(Bag)} {
		for _, e := range []api.Envelope{letter(1, 2, "a"), letter(0, 2, "a"), letter(1, 35, "a"), {From: 1, To: 2, Bytes: make([]byte, api.MaxBytes+1)}, {}} {
			if err := b.Put(e); err != api.ErrNil {
				t.Errorf("%s: Put(%d to %d): %d", what, e.From, e.To, err)
			}
		}
		for _, i := range append([]int{0, 1}, noPlaces(0)...) {
			lacks(t, what, b, i, api.ErrNil)
		}
		for _, set := range []int{0, 6, -1, math.MaxInt} {
			if at := b.Next(set); at != -1 {
				t.Errorf("%s: Next(%x): %d", what, set, at)
			}
		}
		counts(t, what, b, 0, 0, 0)
	}
}

func TestEmptiedIsABag(t *testing.T) {
	b := New()
	put(t, b, letter(1, 2, "a"))
	take(t, b, 0, letter(1, 2, "a"))
	lacks(t, "one whose only note was taken", b, 0, api.ErrRange)
	put(t, b, letter(3, 4, "b"))
	drop(t, b, 0)
	lacks(t, "one whose only note was dropped", b, 0, api.ErrRange)
	put(t, b, letter(5, 6, "c"))
	has(t, "put again", b, letter(5, 6, "c"))
	counts(t, "put again", b, 1, 3, 1)
}

// P13.2

func TestPut(t *testing.T) {
	b := New()
	var want []api.Envelope
	for from := 1; from <= api.Steward; from++ {
		for to := 1; to <= api.Steward; to++ {
			e := letter(from, to, strconv.Itoa(from*100+to))
			put(t, b, e)
			want = append(want, e)
			counts(t, "put", b, len(want), len(want), 0)
		}
	}
	has(t, "from each to each", b, want...)
}

func TestPutBytes(t *testing.T) {
	b := New()
	var want []api.Envelope
	for i, n := range []int{0, 1, 2, 63, 255, 256, api.MaxBytes - 1, api.MaxBytes} {
		e := api.Envelope{From: 34, To: 34, Bytes: bytes.Repeat([]byte{byte(i + 1)}, n)}
		put(t, b, e)
		want = append(want, e)
	}
	put(t, b, api.Envelope{From: 34, To: 1}, want[3], want[3])
	want = append(want, api.Envelope{From: 34, To: 1}, want[3], want[3])
	has(t, "of all lengths, alike ones too", b, want...)
	every := make([]byte, 256)
	for i := range every {
		every[i] = byte(i)
	}
	put(t, b, api.Envelope{From: 1, To: 1, Bytes: every})
	take(t, b, len(want), api.Envelope{From: 1, To: 1, Bytes: every})
}

func TestPutRefuses(t *testing.T) {
	b := New()
	stays := letter(3, 4, "x")
	put(t, b, stays)
	refuses := func(from, to, n int, want api.Errno) {
		t.Helper()
		if e := b.Put(api.Envelope{From: from, To: to, Bytes: make([]byte, n)}); e != want {
			t.Errorf("Put(%d to %d, %d bytes): %d", from, to, n, e)
		}
		counts(t, "behind what was refused", b, 1, 1, 0)
	}
	for _, n := range []int{0, 1, api.MaxBytes, api.MaxBytes + 1} {
		for _, no := range noNames {
			for name := 1; name <= api.Steward; name++ {
				refuses(no, name, n, api.ErrArg)
				refuses(name, no, n, api.ErrArg)
			}
			refuses(no, no, n, api.ErrArg)
		}
	}
	for _, n := range []int{api.MaxBytes + 1, api.MaxBytes + 2, 2 * api.MaxBytes, 1 << 20} {
		refuses(1, 2, n, api.ErrLimit)
		refuses(34, 34, n, api.ErrLimit)
	}
	has(t, "behind what was refused", b, stays)
}

func TestFull(t *testing.T) {
	b, all := filled(t, api.MaxBag-1)
	last := letter(34, 34, "last")
	put(t, b, last)
	all = append(all, last)
	full := func(sent, lost int) {
		t.Helper()
		great := make([]byte, api.MaxBytes+1)
		for i, c := range []struct {
			e    api.Envelope
			want api.Errno
		}{
			{letter(1, 2, "more"), api.ErrFull}, {letter(34, 34, ""), api.ErrFull}, {api.Envelope{From: 1, To: 2, Bytes: great}, api.ErrLimit},
			{letter(0, 2, "more"), api.ErrArg}, {letter(1, 35, "more"), api.ErrArg}, {api.Envelope{From: 1, To: 0, Bytes: great}, api.ErrArg},
		} {
			if e := b.Put(c.e); e != c.want {
				t.Errorf("full: Put of row %d: %d", i, e)
			}
		}
		for _, i := range []int{0, 1, api.MaxBag / 2, api.MaxBag - 1} {
			if err := b.Double(i); err != api.ErrFull {
				t.Errorf("full: Double(%d): %d", i, err)
			}
		}
		for _, i := range noPlaces(api.MaxBag) {
			lacks(t, "full", b, i, api.ErrRange)
		}
		counts(t, "full", b, api.MaxBag, sent, lost)
	}
	full(api.MaxBag, 0)
	has(t, "full", b, all...)
	take(t, b, 0, all[0])
	put(t, b, last)
	full(api.MaxBag+1, 0)
	drop(t, b, api.MaxBag-1)
	double(t, b, 7)
	full(api.MaxBag+2, 1)
	has(t, "full again", b, append(slices.Clone(all[1:]), all[8])...)
}

// P13.3

func TestLook(t *testing.T) {
	b, all := filled(t, 40)
	for range 3 {
		has(t, "looked at", b, all...)
		counts(t, "looked at", b, 40, 40, 0)
	}
	for i := 39; i >= 0; i-- {
		if e, err := b.Look(i); err != api.OK || !alike(e, all[i]) {
			t.Errorf("Look(%d): %v, %d", i, e, err)
		}
	}
}

func TestTakeAndDrop(t *testing.T) {
	for n := 1; n <= 9; n++ {
		for i := range n {
			b, all := filled(t, n)
			take(t, b, i, all[i])
			left := slices.Delete(slices.Clone(all), i, i+1)
			has(t, "behind Take", b, left...)
			counts(t, "behind Take", b, n-1, n, 0)
			lacks(t, "behind Take", b, n-1, api.ErrRange)

			b, _ = filled(t, n)
			drop(t, b, i)
			has(t, "behind Drop", b, left...)
			counts(t, "behind Drop", b, n-1, n, 1)
			lacks(t, "behind Drop", b, n-1, api.ErrRange)

			put(t, b, letter(9, 9, "new"))
			has(t, "put behind Drop", b, append(left, letter(9, 9, "new"))...)
		}
	}
}

func TestDouble(t *testing.T) {
	for n := 1; n <= 9; n++ {
		for i := range n {
			b, all := filled(t, n)
			double(t, b, i)
			has(t, "behind Double", b, append(slices.Clone(all), all[i])...)
			counts(t, "behind Double", b, n+1, n+1, 0)
			double(t, b, n)
			take(t, b, i, all[i])
			left := slices.Delete(slices.Clone(all), i, i+1)
			has(t, "the first of three off", b, append(left, all[i], all[i])...)
			counts(t, "the first of three off", b, n+1, n+2, 0)
		}
	}
}

func TestNoSuchPlace(t *testing.T) {
	for n := range 9 {
		b, all := filled(t, n)
		for _, i := range noPlaces(n) {
			lacks(t, "a bag of "+strconv.Itoa(n), b, i, api.ErrRange)
			has(t, "behind what was refused", b, all...)
			counts(t, "behind what was refused", b, n, n, 0)
		}
	}
}

// P13.4

// between is the set of two names.
func between(a, b int) int {
	return 1<<a | 1<<b
}

func TestNext(t *testing.T) {
	b := New()
	put(t, b, letter(1, 2, "a"), letter(2, 3, "b"), letter(1, 3, "c"), letter(34, 34, "d"), letter(3, 1, "e"), letter(1, 2, "f"))
	for _, c := range []struct{ set, at int }{
		{0, -1}, {1, -1}, {1 << 1, -1}, {1 << 2, -1}, {1 << 3, -1}, {1 << 34, 3}, {1 << 35, -1}, {1<<34 | 1<<1 | 1<<2, 0},
		{between(1, 2), 0}, {between(2, 3), 1}, {between(1, 3), 2}, {between(1, 2) | 1<<3, 0}, {between(1, 34), 3}, {between(4, 5), -1},
		{-1, 0}, {^1, 0}, {^between(0, 1), 1}, {^between(2, 2), 2}, {^between(1, 2), 3}, {math.MaxInt, 0}, {math.MinInt, -1}, {math.MinInt | 1<<34, 3},
	} {
		for range 2 {
			if at := b.Next(c.set); at != c.at {
				t.Errorf("Next(%x): %d, not %d", uint(c.set), at, c.at)
			}
		}
	}
	counts(t, "asked", b, 6, 6, 0)
	take(t, b, 2, letter(1, 3, "c"))
	if at := b.Next(between(1, 3)); at != 3 {
		t.Errorf("behind Take: %d", at)
	}
	drop(t, b, 0)
	if at := b.Next(between(1, 2)); at != 3 {
		t.Errorf("behind Drop: %d", at)
	}
	double(t, b, 3)
	if at := b.Next(between(1, 2)); at != 3 {
		t.Errorf("behind Double: %d", at)
	}
}

func TestNextOfEachTwo(t *testing.T) {
	for from := 1; from <= api.Steward; from++ {
		for to := 1; to <= api.Steward; to++ {
			b := New()
			put(t, b, letter(from, to, ""))
			both := between(from, to)
			for _, set := range []int{both, -1, both | 1, both | 1<<35 | 1<<62} {
				if b.Next(set) != 0 {
					t.Errorf("%d to %d: Next(%x): %d", from, to, uint(set), b.Next(set))
				}
			}
			for _, set := range []int{0, ^both, ^(1 << from), ^(1 << to), both &^ (1 << from), both &^ (1 << to)} {
				if b.Next(set) != -1 {
					t.Errorf("%d to %d: Next(%x): %d", from, to, uint(set), b.Next(set))
				}
			}
		}
	}
}

func TestCounts(t *testing.T) {
	b := New()
	for i, c := range []struct {
		do               func() api.Errno
		e                api.Errno
		many, sent, lost int
	}{
		{func() api.Errno { return b.Put(letter(1, 2, "a")) }, api.OK, 1, 1, 0},
		{func() api.Errno { return b.Put(letter(1, 2, "a")) }, api.OK, 2, 2, 0},
		{func() api.Errno { return b.Put(letter(0, 2, "a")) }, api.ErrArg, 2, 2, 0},
		{func() api.Errno { return b.Double(1) }, api.OK, 3, 3, 0},
		{func() api.Errno { return b.Double(3) }, api.ErrRange, 3, 3, 0},
		{func() api.Errno { return b.Drop(2) }, api.OK, 2, 3, 1},
		{func() api.Errno { return b.Drop(2) }, api.ErrRange, 2, 3, 1},
		{func() api.Errno { _, e := b.Take(2); return e }, api.ErrRange, 2, 3, 1},
		{func() api.Errno { _, e := b.Take(1); return e }, api.OK, 1, 3, 1},
		{func() api.Errno { _, e := b.Look(0); return e }, api.OK, 1, 3, 1},
		{func() api.Errno { return b.Drop(0) }, api.OK, 0, 3, 2},
		{func() api.Errno { return b.Drop(0) }, api.ErrRange, 0, 3, 2},
		{func() api.Errno { return b.Put(letter(34, 34, "")) }, api.OK, 1, 4, 2},
	} {
		if e := c.do(); e != c.e {
			t.Errorf("row %d: %d", i, e)
		}
		counts(t, "row "+strconv.Itoa(i), b, c.many, c.sent, c.lost)
	}
}

func TestCountsGoBeyondTheRoom(t *testing.T) {
	b := New()
	put(t, b, letter(1, 2, "a"))
	for i := range 3 * api.MaxBag {
		double(t, b, 0)
		drop(t, b, i%2)
		if i%64 == 0 {
			counts(t, "doubled and dropped", b, 1, i+2, i+1)
		}
	}
	has(t, "doubled and dropped", b, letter(1, 2, "a"))
}

func TestCountsAreAskedMeanwhile(t *testing.T) {
	b := New()
	var all sync.WaitGroup
	all.Go(func() {
		for range 2000 {
			b.Put(letter(1, 2, "a"))
			b.Drop(0)
		}
	})
	for range 4 {
		all.Go(func() {
			sent, lost := 0, 0
			for range 2000 {
				l := b.Lost()
				s := b.Sent()
				if s < sent || l < lost || l > s || s > 2000 {
					t.Errorf("Sent %d behind %d, Lost %d behind %d", s, sent, l, lost)
				}
				sent, lost = s, l
			}
		})
	}
	all.Wait()
	counts(t, "in the end", b, 0, 2000, 2000)
}

// P13.5

// spoil makes others of all bytes that a list has, and of those in its spare room.
func spoil(l []byte) {
	l = l[:cap(l)]
	for i := range l {
		l[i] ^= 0xFF
	}
}

func TestPutOnlyReads(t *testing.T) {
	b := New()
	room := []byte("..abc..")
	e := api.Envelope{From: 1, To: 2, Bytes: room[2:5]}
	put(t, b, e)
	double(t, b, 0)
	if string(room) != "..abc.." {
		t.Errorf("changed: %q", room)
	}
	spoil(room)
	has(t, "behind a change of the memory handed in", b, letter(1, 2, "abc"), letter(1, 2, "abc"))
	copy(room, "..xyz..")
	put(t, b, e)
	take(t, b, 0, letter(1, 2, "abc"))
	take(t, b, 1, letter(1, 2, "xyz"))
	if string(room) != "..xyz.." {
		t.Errorf("changed: %q", room)
	}
	if b.Put(api.Envelope{From: 0, To: 2, Bytes: room[2:5]}) != api.ErrArg || string(room) != "..xyz.." {
		t.Errorf("changed by what was refused: %q", room)
	}
}

func TestAnswersAreNewMemory(t *testing.T) {
	b := New()
	abc, xyz := letter(1, 2, "abc"), letter(3, 4, "xyz")
	put(t, b, abc, xyz)
	double(t, b, 0)
	for i := range 3 {
		e, _ := b.Look(i)
		spoil(e.Bytes)
		has(t, "behind a change of what Look answered", b, abc, xyz, abc)
	}
	e, _ := b.Take(0)
	kept, _ := b.Look(1)
	spoil(e.Bytes)
	has(t, "behind a change of what Take answered", b, xyz, abc)
	double(t, b, 1)
	first, _ := b.Take(1)
	second, _ := b.Take(1)
	spoil(first.Bytes)
	if !alike(second, abc) || !alike(kept, abc) {
		t.Errorf("doubles share memory: %v, %v", second, kept)
	}
	spoil(second.Bytes)
	put(t, b, abc)
	has(t, "behind a change of all of them", b, xyz, abc)
	if !alike(kept, abc) {
		t.Errorf("an answer changes later: %v", kept)
	}
}

func TestWhatIsOffIsNotKept(t *testing.T) {
	for n := 1; n <= 5; n++ {
		for i := range n {
			b, _ := filled(t, n)
			old := b.notes
			drop(t, b, i)
			if !isZero(old[i]) {
				t.Errorf("%d of %d dropped: its old memory has %v", i, n, old[i])
			}
			for _, e := range b.notes[len(b.notes):cap(b.notes)] {
				if !isZero(e) {
					t.Errorf("%d of %d dropped: behind the last one there is %v", i, n, e)
				}
			}
		}
	}
}

// P13.6

// play does something with a bag and a list at random, and looks at both.
type play struct {
	b          *Bag
	r          *rand.Rand
	notes      []api.Envelope
	sent, lost int
	taken      int
	put, had   map[string]int // by what the notes have: how often it was put or doubled; how often taken or dropped
}

func key(e api.Envelope) string {
	return strconv.Itoa(e.From) + " " + strconv.Itoa(e.To) + " " + string(e.Bytes)
}

func (p *play) add(e api.Envelope) {
	p.notes = append(p.notes, e)
	p.sent++
	p.put[key(e)]++
}

func (p *play) off(i int) {
	p.had[key(p.notes[i])]++
	p.notes = slices.Delete(p.notes, i, i+1)
}

func (p *play) place() int {
	return p.r.Intn(len(p.notes)+3) - 1
}

func (p *play) step(t *testing.T) {
	t.Helper()
	i := p.place()
	there := 0 <= i && i < len(p.notes)
	want := api.ErrRange
	if there {
		want = api.OK
	}
	var got api.Errno
	switch p.r.Intn(6) {
	case 0, 1:
		e := letter(p.r.Intn(36), 1+p.r.Intn(34), strconv.Itoa(p.r.Intn(9)))
		want = api.ErrArg
		if 1 <= e.From && e.From <= 34 {
			want = api.OK
			p.add(e)
		}
		got = p.b.Put(e)
	case 2:
		var e api.Envelope
		if e, got = p.b.Take(i); there {
			if !alike(e, p.notes[i]) {
				t.Fatalf("Take(%d): %v, not %v", i, e, p.notes[i])
			}
			p.off(i)
			p.taken++
		}
	case 3:
		if got = p.b.Drop(i); there {
			p.off(i)
			p.lost++
		}
	case 4:
		if got = p.b.Double(i); there {
			p.add(p.notes[i])
		}
	case 5:
		set := int(p.r.Uint64() | p.r.Uint64())
		at := slices.IndexFunc(p.notes, func(e api.Envelope) bool {
			both := 1<<e.From | 1<<e.To
			return set&both == both
		})
		if next := p.b.Next(set); next != at {
			t.Fatalf("Next(%x): %d, not %d", uint(set), next, at)
		}
		_, got = p.b.Look(i)
	}
	if got != want {
		t.Fatalf("%d, not %d", got, want)
	}
}

func TestNothingComesOfNothing(t *testing.T) {
	for seed := range int64(20) {
		p := play{b: New(), r: rand.New(rand.NewSource(seed)), put: map[string]int{}, had: map[string]int{}}
		for range 1000 {
			p.step(t)
			counts(t, "at random", p.b, len(p.notes), p.sent, p.lost)
			if p.b.Sent()-p.b.Lost() != p.taken+p.b.Len() {
				t.Fatalf("Sent %d, Lost %d, taken %d, Len %d", p.b.Sent(), p.b.Lost(), p.taken, p.b.Len())
			}
		}
		has(t, "at random", p.b, p.notes...)
		for len(p.notes) > 0 {
			i := p.r.Intn(len(p.notes))
			take(t, p.b, i, p.notes[i])
			p.off(i)
		}
		for k, n := range p.had {
			if n != p.put[k] {
				t.Errorf("%q: put %d times, had %d times", k, p.put[k], n)
			}
		}
		counts(t, "all off", p.b, 0, p.sent, p.lost)
	}
}

// P13.7

func TestAllComeInTheirOrder(t *testing.T) {
	for _, n := range []int{1, 2, 5, 100, api.MaxBag} {
		b, all := filled(t, n)
		for i, e := range all {
			take(t, b, 0, e)
			counts(t, "from the oldest on", b, n-1-i, n, 0)
		}
		lacks(t, "all taken", b, 0, api.ErrRange)
	}
}

func TestComeInTheirOrderWhilePut(t *testing.T) {
	b := New()
	next := 0
	for i := range 3000 {
		put(t, b, letter(1+i%34, 1, strconv.Itoa(i)))
		if i%3 > 0 {
			take(t, b, 0, letter(1+next%34, 1, strconv.Itoa(next)))
			next++
		}
	}
	for ; b.Len() > 0; next++ {
		take(t, b, 0, letter(1+next%34, 1, strconv.Itoa(next)))
	}
	if next != 3000 {
		t.Errorf("%d came", next)
	}
}

func TestThoseThatStayKeepTheirOrder(t *testing.T) {
	for what, off := range map[string]func(b *Bag, i int) api.Errno{
		"Take": func(b *Bag, i int) api.Errno { _, e := b.Take(i); return e },
		"Drop": (*Bag).Drop,
	} {
		for bits := range 1 << 7 {
			b, all := filled(t, 7)
			var left []api.Envelope
			gone := 0
			for i, e := range all {
				if bits>>i&1 == 0 {
					left = append(left, e)
					continue
				}
				if err := off(b, i-gone); err != api.OK {
					t.Fatalf("%s(%d): %d", what, i-gone, err)
				}
				gone++
			}
			has(t, what, b, left...)
		}
	}
}

// The chapter's examples.

func TestExamples(t *testing.T) {
	b := New()
	put(t, b, letter(1, 2, "a"), letter(2, 3, "b"), letter(1, 3, "c"))
	if at := b.Next(2 + 8); at != 2 {
		t.Errorf("Next: %d", at)
	}
	double(t, b, 0)
	take(t, b, 1, letter(2, 3, "b"))
	drop(t, b, 0)
	counts(t, "the second row", b, 2, 4, 1)
	take(t, b, 1, letter(1, 2, "a"))

	b = New()
	if e := b.Put(letter(0, 2, "a")); e != api.ErrArg {
		t.Errorf("Put(0 to 2): %d", e)
	}
	lacks(t, "the third row", b, 5, api.ErrRange)
	if at := b.Next(0); at != -1 {
		t.Errorf("Next(0): %d", at)
	}
}
