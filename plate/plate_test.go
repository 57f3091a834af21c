package plate

import (
	"bytes"
	"math"
	"math/rand"
	"slices"
	"testing"

	"bastide/api"
)

// noSectors are numbers of sectors that no plate has.
var noSectors = []int{math.MinInt, -1 << 32, -4096, -64, -1, api.MaxSectors, 1 << 32, math.MaxInt}

// lists are some of what may be handed over as the sectors that stay.
var lists = [][]bool{nil, {}, {true}, {false}, {false, true}, {true, false, true}, yes(3), yes(9), make([]bool, 9)}

// full is a sector's bytes, all the same.
func full(b byte) []byte {
	return bytes.Repeat([]byte{b}, api.SectorSize)
}

// mixed is a sector's bytes, of which none two that stand side by side are the same.
func mixed(b byte) []byte {
	out := make([]byte, api.SectorSize)
	for i := range out {
		out[i] = b + 7*byte(i)
	}
	return out
}

// yes is a list by which the first n sectors that wait stay.
func yes(n int) []bool {
	return slices.Repeat([]bool{true}, n)
}

// fresh is a new plate.
func fresh(t *testing.T, sectors int) *Plate {
	t.Helper()
	p, e := New(sectors)
	if p == nil || e != api.OK {
		t.Fatalf("New(%d): %v, %d", sectors, p, e)
	}
	return p
}

// is looks at a call's error.
func is(t *testing.T, what string, got, want api.Errno) {
	t.Helper()
	if got != want {
		t.Errorf("%s: error %d, not %d", what, got, want)
	}
}

// write writes sectors that are the same byte all over: a sector, a byte, a sector, a byte.
func write(t *testing.T, p *Plate, l ...int) {
	t.Helper()
	for i := 0; i < len(l); i += 2 {
		is(t, "Write", p.Write(l[i], full(byte(l[i+1]))), api.OK)
	}
}

// has looks at all sectors of a plate: each is the same byte all over.
func has(t *testing.T, what string, p *Plate, l ...byte) {
	t.Helper()
	if p.Size() != len(l) || p.Dead() {
		t.Errorf("%s: Size %d, Dead %v", what, p.Size(), p.Dead())
	}
	for at, b := range l {
		if got, e := p.Read(at); e != api.OK || !bytes.Equal(got, full(b)) {
			t.Errorf("%s: Read(%d): %x, %d, not %x", what, at, got, e, b)
		}
	}
}

// waits looks at what waits.
func waits(t *testing.T, what string, p *Plate, l ...int) {
	t.Helper()
	if got := p.Waits(); !slices.Equal(got, l) {
		t.Errorf("%s: Waits %v, not %v", what, got, l)
	}
}

// crashed lets the power go, and come back.
func crashed(t *testing.T, p *Plate, keep ...bool) {
	t.Helper()
	is(t, "Crash", p.Crash(keep), api.OK)
	if !p.Dead() {
		t.Error("Crash: it is not dead")
	}
	boots(t, p)
}

// fails takes the error of a doing that the power went in the stead of.
func fails(t *testing.T, what string, p *Plate, e api.Errno) {
	t.Helper()
	is(t, what, e, api.ErrDead)
	if !p.Dead() {
		t.Errorf("%s: it is not dead", what)
	}
	boots(t, p)
}

// boots brings a plate back.
func boots(t *testing.T, p *Plate) {
	t.Helper()
	is(t, "Boot", p.Boot(), api.OK)
	if p.Dead() {
		t.Error("Boot: it is dead")
	}
	waits(t, "behind Boot", p)
}

// P5.1

func TestNew(t *testing.T) {
	for _, n := range []int{1, 2, 3, 63, 64, 65, 1640, 4095, 4096} {
		p := fresh(t, n)
		has(t, "a new plate", p, make([]byte, n)...)
		waits(t, "a new plate", p)
		write(t, p, n-1, 9)
		is(t, "Write behind the last one", p.Write(n, full(1)), api.ErrRange)
		has(t, "the last one", p, append(make([]byte, n-1), 9)...)
		write(t, p, 0, 8)
		waits(t, "the first and the last one", p, slices.Compact([]int{0, n - 1})...)
	}
}

func TestNewRefuses(t *testing.T) {
	for _, n := range []int{math.MinInt, -1 << 32, -4096, -2, -1, 0, 4097, 8192, 1<<32 + 1, math.MaxInt} {
		if p, e := New(n); p != nil || e != api.ErrRange {
			t.Errorf("New(%d): %v, %d", n, p, e)
		}
	}
}

func TestNewOnesShareNothing(t *testing.T) {
	one, other := fresh(t, 2), fresh(t, 2)
	write(t, one, 0, 1)
	is(t, "Flush", one.Flush(), api.OK)
	write(t, one, 1, 2)
	is(t, "Fail", one.Fail(0, nil), api.OK)
	has(t, "the other one", other, 0, 0)
	waits(t, "the other one", other)
	is(t, "the other one's Flush", other.Flush(), api.OK)
	fails(t, "the one's Flush", one, one.Flush())
	has(t, "the other one", other, 0, 0)
	has(t, "the one", one, 1, 0)
}

func TestNone(t *testing.T) {
	var none *Plate
	for what, p := range map[string]*Plate{"nil": none, "one that New did not make": {}, "a new zero one": new(Plate)} {
		for _, at := range append([]int{0, 1}, noSectors...) {
			if b, e := p.Read(at); b != nil || e != api.ErrNil {
				t.Errorf("%s: Read(%d): %x, %d", what, at, b, e)
			}
			for _, b := range [][]byte{nil, {}, full(1), full(1)[:63], make([]byte, 65)} {
				is(t, what+": Write", p.Write(at, b), api.ErrNil)
			}
			for _, bit := range []int{-1, 0, 511, 512} {
				is(t, what+": Turn", p.Turn(at, bit), api.ErrNil)
			}
			for _, keep := range lists {
				is(t, what+": Fail", p.Fail(at, keep), api.ErrNil)
				is(t, what+": Crash", p.Crash(keep), api.ErrNil)
			}
		}
		is(t, what+": Flush", p.Flush(), api.ErrNil)
		is(t, what+": Boot", p.Boot(), api.ErrNil)
		is(t, what+": Flush behind Boot", p.Flush(), api.ErrNil)
		if p.Size() != 0 || len(p.Waits()) != 0 || p.Dead() {
			t.Errorf("%s: Size %d, Waits %v, Dead %v", what, p.Size(), p.Waits(), p.Dead())
		}
	}
}

func TestDead(t *testing.T) {
	p := fresh(t, 3)
	write(t, p, 0, 1, 1, 2)
	is(t, "Flush", p.Flush(), api.OK)
	write(t, p, 0, 3, 2, 4)
	is(t, "Crash", p.Crash([]bool{false, true}), api.OK)
	for range 2 {
		for _, at := range append([]int{0, 1, 2, 3}, noSectors...) {
			if b, e := p.Read(at); b != nil || e != api.ErrDead {
				t.Errorf("Read(%d): %x, %d", at, b, e)
			}
			for _, b := range [][]byte{nil, full(9), full(9)[:63], make([]byte, 65)} {
				is(t, "Write", p.Write(at, b), api.ErrDead)
			}
			for _, bit := range []int{-1, 0, 511, 512} {
				is(t, "Turn", p.Turn(at, bit), api.ErrDead)
			}
			for _, keep := range lists {
				is(t, "Fail", p.Fail(at, keep), api.ErrDead)
				is(t, "Crash", p.Crash(keep), api.ErrDead)
			}
		}
		is(t, "Flush", p.Flush(), api.ErrDead)
		waits(t, "dead", p)
		if p.Size() != 3 || !p.Dead() {
			t.Errorf("Size %d, Dead %v", p.Size(), p.Dead())
		}
	}
	is(t, "Fail", p.Fail(0, yes(3)), api.ErrDead)
	boots(t, p)
	has(t, "behind what was refused", p, 1, 2, 4)
	write(t, p, 1, 5)
	is(t, "Flush", p.Flush(), api.OK)
	has(t, "it goes on", p, 1, 5, 4)
}

// P5.2

func TestWriteAndRead(t *testing.T) {
	p := fresh(t, 4)
	for i, c := range []struct{ at, b int }{{2, 1}, {0, 2}, {2, 3}, {3, 0}, {2, 3}, {1, 255}, {0, 0}} {
		b := mixed(byte(c.b))
		is(t, "Write", p.Write(c.at, b), api.OK)
		if got, e := p.Read(c.at); e != api.OK || !bytes.Equal(got, b) {
			t.Errorf("row %d: %x, %d", i, got, e)
		}
	}
	for at, b := range []byte{0, 255, 3, 0} {
		if got, e := p.Read(at); e != api.OK || !bytes.Equal(got, mixed(b)) {
			t.Errorf("Read(%d): %x, %d", at, got, e)
		}
	}
	waits(t, "all written", p, 0, 1, 2, 3)
}

func TestReadAndWriteRefuse(t *testing.T) {
	p := fresh(t, 3)
	write(t, p, 0, 1, 2, 3)
	is(t, "Flush", p.Flush(), api.OK)
	write(t, p, 1, 2)
	for _, at := range append([]int{3, 4, 64, 4095}, noSectors...) {
		if b, e := p.Read(at); b != nil || e != api.ErrRange {
			t.Errorf("Read(%d): %x, %d", at, b, e)
		}
		for _, b := range [][]byte{nil, full(9), full(9)[:63], make([]byte, 65)} {
			is(t, "Write of a sector that is none", p.Write(at, b), api.ErrRange)
		}
	}
	for _, n := range []int{0, 1, 32, 63, 65, 128, 1 << 20} {
		for at := range 3 {
			is(t, "Write of another length", p.Write(at, make([]byte, n)), api.ErrArg)
		}
	}
	is(t, "Write of nil", p.Write(2, nil), api.ErrArg)
	has(t, "behind what was refused", p, 1, 2, 3)
	waits(t, "behind what was refused", p, 1)
}

func TestFlush(t *testing.T) {
	p := fresh(t, 4)
	is(t, "Flush of nothing", p.Flush(), api.OK)
	write(t, p, 3, 1, 0, 2, 3, 3)
	is(t, "Flush", p.Flush(), api.OK)
	waits(t, "flushed", p)
	has(t, "flushed", p, 2, 0, 0, 3)
	crashed(t, p)
	has(t, "flushed, and the power went", p, 2, 0, 0, 3)
	write(t, p, 0, 4, 1, 5)
	is(t, "Flush", p.Flush(), api.OK)
	is(t, "Flush, twice", p.Flush(), api.OK)
	write(t, p, 1, 6, 2, 7)
	crashed(t, p)
	has(t, "flushed, written, and the power went", p, 4, 5, 0, 3)
}

func TestWaits(t *testing.T) {
	p := fresh(t, 300)
	waits(t, "nothing", p)
	for i := range 100 {
		write(t, p, 299-3*i, i)
	}
	var want []int
	for at := 2; at < 300; at += 3 {
		want = append(want, at)
	}
	waits(t, "each third", p, want...)
	write(t, p, 299, 1, 2, 0)
	waits(t, "two again", p, want...)
	p.Read(0)
	p.Write(0, nil)
	p.Write(300, full(1))
	waits(t, "read, and refused", p, want...)
	is(t, "Flush", p.Flush(), api.OK)
	waits(t, "flushed", p)
	write(t, p, 0, 0)
	waits(t, "written as it was", p, 0)
	crashed(t, p, true)
	waits(t, "stayed", p)
}

// P5.3

func TestCrash(t *testing.T) {
	for _, c := range []struct {
		keep []bool
		want []byte
	}{
		{nil, []byte{1, 2, 3, 4, 5}},
		{[]bool{}, []byte{1, 2, 3, 4, 5}},
		{[]bool{false}, []byte{1, 2, 3, 4, 5}},
		{make([]bool, 9), []byte{1, 2, 3, 4, 5}},
		{[]bool{true}, []byte{11, 2, 3, 4, 5}},
		{[]bool{false, true}, []byte{1, 2, 13, 4, 5}},
		{[]bool{false, false, true}, []byte{1, 2, 3, 4, 15}},
		{[]bool{true, true}, []byte{11, 2, 13, 4, 5}},
		{[]bool{true, false, true}, []byte{11, 2, 3, 4, 15}},
		{[]bool{false, true, true}, []byte{1, 2, 13, 4, 15}},
		{yes(3), []byte{11, 2, 13, 4, 15}},
		{yes(4), []byte{11, 2, 13, 4, 15}},
		{yes(5000), []byte{11, 2, 13, 4, 15}},
		{[]bool{false, false, false, true, true}, []byte{1, 2, 3, 4, 5}},
	} {
		at := func() *Plate {
			p := fresh(t, 5)
			write(t, p, 0, 1, 1, 2, 2, 3, 3, 4, 4, 5)
			is(t, "Flush", p.Flush(), api.OK)
			write(t, p, 4, 14, 4, 15, 0, 11, 2, 13)
			return p
		}
		p := at()
		crashed(t, p, c.keep...)
		has(t, "crashed", p, c.want...)
		crashed(t, p, yes(5)...)
		has(t, "crashed again", p, c.want...)

		p = at()
		is(t, "Fail", p.Fail(0, c.keep), api.OK)
		fails(t, "Flush", p, p.Flush())
		has(t, "failed", p, c.want...)

		p = at()
		is(t, "Fail", p.Fail(0, c.keep), api.OK)
		fails(t, "Write", p, p.Write(1, full(99)))
		has(t, "failed, in the stead of a sector that did not wait", p, c.want...)

		p = at()
		is(t, "Fail", p.Fail(0, c.keep), api.OK)
		fails(t, "Write", p, p.Write(4, full(99)))
		has(t, "failed, in the stead of one that did", p, c.want...)
	}
}

func TestCrashIsNotFail(t *testing.T) {
	p := fresh(t, 2)
	write(t, p, 0, 1, 1, 2)
	is(t, "Fail", p.Fail(5, yes(2)), api.OK)
	crashed(t, p, false, true)
	has(t, "by its own list", p, 0, 2)
	for range 9 {
		is(t, "Flush", p.Flush(), api.OK)
	}
}

func TestFail(t *testing.T) {
	for n := range 12 {
		p := fresh(t, 2)
		is(t, "Fail", p.Fail(n, yes(1)), api.OK)
		has(t, "to fail", p, 0, 0)
		want := byte(0)
		for i := range n {
			if i%3 == 2 {
				is(t, "Flush", p.Flush(), api.OK)
				continue
			}
			want = byte(i + 1)
			write(t, p, 1, i+1)
		}
		if p.Dead() {
			t.Errorf("dead behind %d", n)
		}
		if n%2 == 0 {
			fails(t, "Flush", p, p.Flush())
		} else {
			fails(t, "Write", p, p.Write(1, full(99)))
		}
		has(t, "failed", p, 0, want)
		for range 20 {
			write(t, p, 0, 7)
			is(t, "Flush", p.Flush(), api.OK)
		}
		has(t, "not to fail any more", p, 7, want)
	}
}

func TestFailCountsDoingsAlone(t *testing.T) {
	p := fresh(t, 3)
	write(t, p, 0, 1)
	is(t, "Fail", p.Fail(1, nil), api.OK)
	others := func() {
		t.Helper()
		for range 3 {
			p.Size()
			p.Dead()
			p.Waits()
			p.Read(0)
			p.Read(3)
			is(t, "Write of no sector", p.Write(3, full(9)), api.ErrRange)
			is(t, "Write of no sector", p.Write(-1, nil), api.ErrRange)
			is(t, "Write of 63 bytes", p.Write(0, full(9)[:63]), api.ErrArg)
			is(t, "Turn", p.Turn(2, 8), api.OK)
			is(t, "Turn", p.Turn(2, 8), api.OK)
			is(t, "Turn of no bit", p.Turn(2, 512), api.ErrRange)
			is(t, "Turn of no sector", p.Turn(3, 0), api.ErrRange)
		}
	}
	others()
	write(t, p, 1, 2)
	others()
	has(t, "to fail with the next one", p, 1, 2, 0)
	waits(t, "to fail with the next one", p, 0, 1)
	fails(t, "Flush", p, p.Flush())
	has(t, "failed", p, 0, 0, 0)
}

func TestFlushOfNothingIsADoing(t *testing.T) {
	p := fresh(t, 1)
	is(t, "Fail", p.Fail(2, nil), api.OK)
	is(t, "Flush", p.Flush(), api.OK)
	is(t, "Flush", p.Flush(), api.OK)
	fails(t, "Flush", p, p.Flush())
	is(t, "Fail", p.Fail(0, nil), api.OK)
	fails(t, "Flush", p, p.Flush())
}

func TestFailAgain(t *testing.T) {
	p := fresh(t, 2)
	write(t, p, 0, 1, 1, 2)
	is(t, "Fail", p.Fail(0, yes(2)), api.OK)
	is(t, "Fail again", p.Fail(2, []bool{false, true}), api.OK)
	write(t, p, 0, 3)
	is(t, "Fail again", p.Fail(1, []bool{true}), api.OK)
	write(t, p, 0, 4)
	fails(t, "Write", p, p.Write(0, full(5)))
	has(t, "by the last list", p, 4, 0)
}

func TestFailNotAtAll(t *testing.T) {
	for _, n := range []int{-1, -2, -1 << 32, math.MinInt} {
		for _, keep := range lists {
			p := fresh(t, 2)
			is(t, "Fail", p.Fail(0, yes(2)), api.OK)
			is(t, "Fail below 0", p.Fail(n, keep), api.OK)
			for i := range 20 {
				write(t, p, 0, i)
				is(t, "Flush", p.Flush(), api.OK)
			}
			write(t, p, 0, 1)
			crashed(t, p)
			has(t, "crashed", p, 19, 0)
		}
	}
}

func TestFailBehindMany(t *testing.T) {
	p := fresh(t, 1)
	for _, n := range []int{1000, 1 << 32, math.MaxInt} {
		is(t, "Fail", p.Fail(n, nil), api.OK)
		for i := range 1000 {
			write(t, p, 0, i)
		}
		if p.Dead() {
			t.Errorf("Fail(%d): dead", n)
		}
	}
	is(t, "Fail", p.Fail(1000, nil), api.OK)
	for i := range 1000 {
		write(t, p, 0, i)
	}
	fails(t, "Write", p, p.Write(0, full(1)))
}

func TestNotToFailIsNever(t *testing.T) {
	calmed := fresh(t, 1)
	is(t, "Fail", calmed.Fail(3, nil), api.OK)
	is(t, "Fail below 0", calmed.Fail(-1, nil), api.OK)
	booted := fresh(t, 1)
	crashed(t, booted)
	for what, p := range map[string]*Plate{"new": fresh(t, 1), "calmed": calmed, "booted": booted} {
		for i := range 1<<20 + 9 {
			if e := p.Flush(); e != api.OK {
				t.Fatalf("%s: Flush behind %d: %d", what, i, e)
			}
		}
	}
}

func TestFailKeepsLongLists(t *testing.T) {
	p := fresh(t, api.MaxSectors)
	keep := make([]bool, api.MaxSectors+5)
	want := make([]byte, api.MaxSectors)
	for at := range api.MaxSectors {
		write(t, p, at, at%250+1)
		if keep[at] = at%3 == 0 || at == api.MaxSectors-2; keep[at] {
			want[at] = byte(at%250 + 1)
		}
	}
	is(t, "Fail", p.Fail(0, keep), api.OK)
	fails(t, "Flush", p, p.Flush())
	has(t, "failed", p, want...)
}

func TestBoot(t *testing.T) {
	p := fresh(t, 2)
	write(t, p, 0, 1)
	is(t, "Flush", p.Flush(), api.OK)
	write(t, p, 0, 2, 1, 3)
	is(t, "Fail", p.Fail(0, yes(2)), api.OK)
	is(t, "Boot of one that is alive", p.Boot(), api.OK)
	has(t, "booted alive", p, 2, 3)
	waits(t, "booted alive", p, 0, 1)
	write(t, p, 1, 4)
	crashed(t, p)
	has(t, "what waited was not flushed", p, 1, 0)
	is(t, "Boot", p.Boot(), api.OK)
	is(t, "Boot", p.Boot(), api.OK)
	has(t, "booted thrice", p, 1, 0)
}

func TestTurn(t *testing.T) {
	for _, bit := range []int{0, 1, 7, 8, 9, 63, 64, 255, 256, 300, 504, 511} {
		p := fresh(t, 3)
		before := mixed(3)
		is(t, "Write", p.Write(1, before), api.OK)
		is(t, "Flush", p.Flush(), api.OK)
		is(t, "Turn", p.Turn(1, bit), api.OK)
		after := slices.Clone(before)
		after[bit>>3] ^= 1 << (bit & 7)
		if got, e := p.Read(1); e != api.OK || !bytes.Equal(got, after) {
			t.Errorf("Turn(1, %d): %x, %d", bit, got, e)
		}
		waits(t, "turned", p)
		crashed(t, p)
		if got, e := p.Read(1); e != api.OK || !bytes.Equal(got, after) {
			t.Errorf("Turn(1, %d), and the power went: %x, %d", bit, got, e)
		}
		is(t, "Turn", p.Turn(1, bit), api.OK)
		if got, e := p.Read(1); e != api.OK || !bytes.Equal(got, before) {
			t.Errorf("Turn(1, %d), twice: %x, %d", bit, got, e)
		}
	}
}

func TestTurnOfAllBits(t *testing.T) {
	p := fresh(t, 2)
	for bit := range 512 {
		is(t, "Turn", p.Turn(1, bit), api.OK)
	}
	has(t, "each once", p, 0, 255)
	for bit := range 512 {
		if bit%8 > 0 {
			is(t, "Turn", p.Turn(1, bit), api.OK)
		}
	}
	has(t, "all but the lowest ones of their bytes again", p, 0, 1)
}

func TestTurnOfWhatWaits(t *testing.T) {
	p := fresh(t, 3)
	write(t, p, 0, 16, 1, 32, 2, 64)
	is(t, "Flush", p.Flush(), api.OK)
	write(t, p, 0, 1, 1, 2, 2, 4)
	is(t, "Turn", p.Turn(1, 0), api.OK)
	turned := full(2)
	turned[0] = 3
	seen := func(what string) {
		t.Helper()
		if got, e := p.Read(1); e != api.OK || !bytes.Equal(got, turned) {
			t.Errorf("%s: %x, %d", what, got, e)
		}
	}
	seen("turned")
	waits(t, "turned", p, 0, 2)
	crashed(t, p, false, true)
	seen("turned, and the power went")
	for at, b := range map[int]byte{0: 16, 2: 4} {
		if got, e := p.Read(at); e != api.OK || !bytes.Equal(got, full(b)) {
			t.Errorf("Read(%d): %x, %d", at, got, e)
		}
	}
	write(t, p, 1, 9)
	waits(t, "written behind it", p, 1)
	crashed(t, p)
	seen("written, and the power went")
}

func TestTurnRefuses(t *testing.T) {
	p := fresh(t, 2)
	write(t, p, 0, 1)
	for _, bit := range []int{math.MinInt, -512, -8, -1, 0, 511, 512, 513, 1 << 32, math.MaxInt} {
		for _, at := range append([]int{2, 3}, noSectors...) {
			is(t, "Turn of no sector", p.Turn(at, bit), api.ErrRange)
		}
		if bit < 0 || bit > 511 {
			is(t, "Turn of no bit", p.Turn(0, bit), api.ErrRange)
			is(t, "Turn of no bit", p.Turn(1, bit), api.ErrRange)
		}
	}
	has(t, "behind what was refused", p, 1, 0)
	waits(t, "behind what was refused", p, 0)
	crashed(t, p)
	has(t, "behind what was refused, and the power went", p, 0, 0)
}

// P5.4

func TestWhatIsHandedInIsNotKept(t *testing.T) {
	p := fresh(t, 2)
	room := append(full(5), 9, 9)
	b := room[:api.SectorSize]
	is(t, "Write", p.Write(0, b), api.OK)
	clear(b)
	has(t, "what was written, and changed behind it", p, 5, 0)
	copy(b, full(6))
	is(t, "Flush", p.Flush(), api.OK)
	is(t, "Write", p.Write(0, b), api.OK)
	b[3] = 0
	is(t, "Flush", p.Flush(), api.OK)
	b[4] = 0
	has(t, "flushed", p, 6, 0)
	is(t, "Turn", p.Turn(0, 0), api.OK)
	if want := append([]byte{6, 6, 6, 0, 0, 6}, full(6)[6:]...); !bytes.Equal(room, append(want, 9, 9)) {
		t.Errorf("changed: %x", room)
	}

	p = fresh(t, 2)
	write(t, p, 0, 1, 1, 2)
	list := []bool{false, true, true, true}
	keep := list[:2]
	is(t, "Fail", p.Fail(0, keep), api.OK)
	keep[0], keep[1] = true, false
	fails(t, "Flush", p, p.Flush())
	has(t, "by the list as it was", p, 0, 2)
	write(t, p, 0, 3, 1, 4)
	crashed(t, p, keep...)
	has(t, "by the list as it is", p, 3, 2)
	if !slices.Equal(list, []bool{true, false, true, true}) {
		t.Errorf("changed: %v", list)
	}
}

func TestSpareRoomIsNotRead(t *testing.T) {
	list := yes(4)
	p := fresh(t, 3)
	write(t, p, 0, 1, 1, 2, 2, 3)
	crashed(t, p, list[:1]...)
	has(t, "crashed", p, 1, 0, 0)
	write(t, p, 0, 4, 1, 5)
	is(t, "Fail", p.Fail(0, list[:1]), api.OK)
	fails(t, "Flush", p, p.Flush())
	has(t, "failed", p, 4, 0, 0)
	is(t, "Write", p.Write(0, full(1)[:63]), api.ErrArg)
}

func TestAnswersAreNewMemory(t *testing.T) {
	p := fresh(t, 3)
	write(t, p, 0, 1)
	is(t, "Flush", p.Flush(), api.OK)
	write(t, p, 1, 2)
	for at := range 3 {
		one, _ := p.Read(at)
		other, _ := p.Read(at)
		for i := range one[:cap(one)] {
			one[:cap(one)][i] = 99
		}
		if !bytes.Equal(other, full([]byte{1, 2, 0}[at])) {
			t.Errorf("Read(%d): another answer is %x", at, other)
		}
	}
	has(t, "behind a change of what was answered", p, 1, 2, 0)
	waiting := p.Waits()
	waiting[0] = 2
	waits(t, "behind a change of what was answered", p, 1)
	crashed(t, p, true)
	has(t, "crashed", p, 1, 2, 0)
	kept, _ := p.Read(1)
	write(t, p, 1, 7)
	is(t, "Flush", p.Flush(), api.OK)
	is(t, "Turn", p.Turn(1, 3), api.OK)
	if !bytes.Equal(kept, full(2)) {
		t.Errorf("an answer, behind what was done later: %x", kept)
	}
}

// P5.5

func TestWhatWasFlushedIsThere(t *testing.T) {
	for doings := range 14 {
		for mask := range 16 {
			p := fresh(t, 5)
			write(t, p, 0, 1, 1, 2, 4, 5)
			is(t, "Flush", p.Flush(), api.OK)
			is(t, "Fail", p.Fail(doings, []bool{mask&1 > 0, mask&2 > 0, mask&4 > 0, mask&8 > 0}), api.OK)
			flushed := []byte{1, 2, 0, 0, 5}
			seen := slices.Clone(flushed)
			for i, at := range []int{3, 1, -1, 1, 0, 3, -1, 2, 2, 3, 1, -1, -1, 0} {
				if i == doings {
					break
				}
				if at < 0 {
					is(t, "Flush", p.Flush(), api.OK)
					copy(flushed, seen)
					continue
				}
				seen[at] = byte(20 + i)
				write(t, p, at, 20+i)
			}
			fails(t, "the next one", p, p.Flush())
			i := 0
			for at := range flushed {
				if flushed[at] == seen[at] {
					continue
				}
				if mask>>i&1 > 0 {
					flushed[at] = seen[at]
				}
				i++
			}
			has(t, "failed", p, flushed...)
		}
	}
}

func TestNoSectorIsTorn(t *testing.T) {
	for mask := range 1 << 6 {
		p := fresh(t, 6)
		var keep []bool
		for at := range 6 {
			is(t, "Write", p.Write(at, mixed(byte(at))), api.OK)
			keep = append(keep, mask>>at&1 > 0)
		}
		is(t, "Flush", p.Flush(), api.OK)
		for at := range 6 {
			is(t, "Write", p.Write(at, mixed(byte(at+50))), api.OK)
			is(t, "Write", p.Write(at, mixed(byte(at+100))), api.OK)
		}
		crashed(t, p, keep...)
		for at := range 6 {
			want := mixed(byte(at))
			if keep[at] {
				want = mixed(byte(at + 100))
			}
			if got, e := p.Read(at); e != api.OK || !bytes.Equal(got, want) {
				t.Errorf("%b: Read(%d): %x, %d", mask, at, got, e)
			}
		}
	}
}

// P5.6

func TestAllStaysOrNothing(t *testing.T) {
	for _, at := range [][]int{nil, {0}, {6}, {0, 6}, {3, 1, 5}, {5, 3, 1, 3}, {0, 1, 2, 3, 4, 5, 6}} {
		for _, n := range []int{0, len(at), 7, 100} {
			p := fresh(t, 7)
			flushed := []byte{1, 0, 3, 4, 0, 6, 7}
			for i, b := range flushed {
				write(t, p, i, int(b))
			}
			is(t, "Flush", p.Flush(), api.OK)
			seen := slices.Clone(flushed)
			for i, x := range at {
				seen[x] = byte(30 + i)
				write(t, p, x, 30+i)
			}
			has(t, "written", p, seen...)
			crashed(t, p, make([]bool, n)...)
			has(t, "nothing stays", p, flushed...)
			for i, x := range at {
				write(t, p, x, 30+i)
			}
			crashed(t, p, yes(max(n, len(at)))...)
			has(t, "all stays", p, seen...)
		}
	}
}

// model is a plate told another way: each sector has all that was written to it since the last flush.
type model struct {
	sectors [][][]byte
	dead    bool
	fail    bool
	ahead   int
	keep    []bool
}

func newModel(n int) *model {
	m := &model{}
	for range n {
		m.sectors = append(m.sectors, [][]byte{full(0)})
	}
	return m
}

func (m *model) seen(at int) []byte { return m.sectors[at][len(m.sectors[at])-1] }

func (m *model) waits() []int {
	var out []int
	for at, s := range m.sectors {
		if len(s) > 1 {
			out = append(out, at)
		}
	}
	return out
}

func (m *model) flush(keep func(i int) bool) {
	for i, at := range m.waits() {
		if keep(i) {
			m.sectors[at] = [][]byte{m.seen(at)}
		} else {
			m.sectors[at] = m.sectors[at][:1]
		}
	}
}

func (m *model) crash(keep []bool) api.Errno {
	m.flush(func(i int) bool { return i < len(keep) && keep[i] })
	m.dead, m.fail = true, false
	return api.OK
}

func (m *model) do(f func()) api.Errno {
	if m.fail && m.ahead == 0 {
		m.crash(m.keep)
		return api.ErrDead
	}
	m.ahead--
	f()
	return api.OK
}

// step does one thing on a plate and on its model, and tells the errors of both.
func step(r *rand.Rand, p *Plate, m *model) (what string, got, want api.Errno) {
	at := r.Intn(len(m.sectors)+2) - 1
	none := at < 0 || at >= len(m.sectors)
	var keep []bool
	for range r.Intn(8) {
		keep = append(keep, r.Intn(2) > 0)
	}
	op := r.Intn(24)
	if op == 0 {
		m.dead, m.fail = false, false
		return "Boot", p.Boot(), api.OK
	}
	dead := func(e func() api.Errno) api.Errno {
		if m.dead {
			return api.ErrDead
		}
		return e()
	}
	switch {
	case op < 3:
		return "Flush", p.Flush(), dead(func() api.Errno { return m.do(func() { m.flush(func(int) bool { return true }) }) })
	case op < 4:
		return "Crash", p.Crash(keep), dead(func() api.Errno { return m.crash(keep) })
	case op < 6:
		n := r.Intn(9) - 2
		return "Fail", p.Fail(n, keep), dead(func() api.Errno {
			m.fail, m.ahead, m.keep = n >= 0, n, keep
			return api.OK
		})
	case op < 8:
		bit := r.Intn(518) - 3
		return "Turn", p.Turn(at, bit), dead(func() api.Errno {
			if none || bit < 0 || bit > 511 {
				return api.ErrRange
			}
			b := slices.Clone(m.seen(at))
			b[bit/8] ^= 1 << (bit % 8)
			m.sectors[at] = [][]byte{b}
			return api.OK
		})
	}
	b := mixed(byte(r.Intn(256)))
	if r.Intn(12) == 0 {
		b = b[:63]
	}
	return "Write", p.Write(at, b), dead(func() api.Errno {
		switch {
		case none:
			return api.ErrRange
		case len(b) < 64:
			return api.ErrArg
		}
		return m.do(func() { m.sectors[at] = append(m.sectors[at], b) })
	})
}

// alike tells whether all that is seen of a plate is what its model has.
func alike(p *Plate, m *model) bool {
	ok := p.Size() == len(m.sectors) && p.Dead() == m.dead && slices.Equal(p.Waits(), m.waits())
	for at := range m.sectors {
		b, e := p.Read(at)
		if m.dead {
			ok = ok && b == nil && e == api.ErrDead
		} else {
			ok = ok && e == api.OK && bytes.Equal(b, m.seen(at))
		}
	}
	return ok
}

func TestModel(t *testing.T) {
	for seed := range int64(200) {
		r := rand.New(rand.NewSource(seed))
		n := 1 + r.Intn(6)
		p, m := fresh(t, n), newModel(n)
		for i := range 300 {
			what, got, want := step(r, p, m)
			if got != want || !alike(p, m) {
				t.Fatalf("seed %d, step %d, %s: %d, not %d", seed, i, what, got, want)
			}
		}
	}
}

// The chapter's examples.

func TestExamples(t *testing.T) {
	p := fresh(t, 2)
	write(t, p, 0, 1, 1, 2, 0, 3)
	waits(t, "the first row", p, 0, 1)
	crashed(t, p, false, true)
	has(t, "the second row", p, 0, 2)

	write(t, p, 0, 1)
	is(t, "Flush", p.Flush(), api.OK)
	write(t, p, 0, 2)
	crashed(t, p)
	has(t, "the third row", p, 1, 2)

	is(t, "Fail", p.Fail(1, nil), api.OK)
	write(t, p, 0, 3)
	fails(t, "the fourth row", p, p.Flush())
	has(t, "behind the fourth row", p, 1, 2)
}
