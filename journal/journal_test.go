package journal

import (
	"bytes"
	"encoding/binary"
	"hash/crc64"
	"math"
	"math/rand"
	"slices"
	"testing"

	"bastide/api"
	"bastide/plate"
)

// noBlocks are numbers of blocks that no journal has.
var noBlocks = []int{math.MinInt, -1 << 32, -4096, -2, -1, api.MaxSectors, 1 << 16, 1 << 32, math.MaxInt}

// is looks at a call's error.
func is(t *testing.T, what string, got, want api.Errno) {
	t.Helper()
	if got != want {
		t.Errorf("%s: error %d, not %d", what, got, want)
	}
}

// full is a block's data, all the same.
func full(b byte) []byte {
	return bytes.Repeat([]byte{b}, BlockSize)
}

// made is a sector, put together from the chapter's words alone.
func made(kind byte, turn uint64, number uint16, data ...byte) []byte {
	b := make([]byte, 0, api.SectorSize)
	b = binary.BigEndian.AppendUint64(b, turn)[3:]
	b = append([]byte{kind}, b...)
	b = binary.BigEndian.AppendUint16(b, number)
	b = append(b, data...)
	b = append(b, make([]byte, 56-len(b))...)
	return binary.BigEndian.AppendUint64(b, crc64.Checksum(b, crc64.MakeTable(crc64.ECMA)))
}

// madeHead is a head: which one, L, the place and the turn with which the log begins.
func madeHead(which uint64, log, place uint16, turn uint64) []byte {
	data := binary.BigEndian.AppendUint16(nil, place)
	return made(1, which, log, append(data, binary.BigEndian.AppendUint64(nil, turn)[3:]...)...)
}

func madeEntry(turn uint64, number uint16, b byte) []byte {
	return made(2, turn, number, full(b)...)
}

func madeEnd(turn uint64, entries uint16) []byte {
	return made(3, turn, entries)
}

func madeHome(number uint16, b byte) []byte {
	return made(4, 0, number, full(b)...)
}

var noughts = make([]byte, api.SectorSize)

// newPlate is a plate with such sectors, flushed; there are so many, the last ones noughts.
func newPlate(t *testing.T, sectors int, l ...[]byte) *plate.Plate {
	t.Helper()
	p, e := plate.New(sectors)
	is(t, "plate.New", e, api.OK)
	for at, b := range l {
		lay(t, p, at, b)
	}
	return p
}

// lay writes a sector, and flushes it.
func lay(t *testing.T, p *plate.Plate, at int, b []byte) {
	t.Helper()
	is(t, "plate.Write", p.Write(at, b), api.OK)
	is(t, "plate.Flush", p.Flush(), api.OK)
}

// sectors are all that a plate has, as they are seen.
func sectors(t *testing.T, p *plate.Plate) [][]byte {
	t.Helper()
	var l [][]byte
	for at := range p.Size() {
		b, e := p.Read(at)
		is(t, "plate.Read", e, api.OK)
		l = append(l, b)
	}
	return l
}

// stands looks at a plate: it has such sectors, noughts behind them, and nothing waits.
func stands(t *testing.T, what string, p *plate.Plate, l ...[]byte) {
	t.Helper()
	if w := p.Waits(); len(w) > 0 {
		t.Errorf("%s: %v wait", what, w)
	}
	for at, b := range sectors(t, p) {
		want := noughts
		if at < len(l) {
			want = l[at]
		}
		if !bytes.Equal(b, want) {
			t.Errorf("%s: the sector %d is %x, not %x", what, at, b, want)
		}
	}
}

// fresh is a new journal, on a new plate.
func fresh(t *testing.T, sectors, log int) (*plate.Plate, *Journal) {
	t.Helper()
	p := newPlate(t, sectors)
	j, e := Format(p, log)
	if j == nil || e != api.OK {
		t.Fatalf("Format(%d sectors, %d): %v, %d", sectors, log, j, e)
	}
	return p, j
}

// opened is the journal of a plate.
func opened(t *testing.T, p *plate.Plate) *Journal {
	t.Helper()
	j, e := Open(p)
	if j == nil || e != api.OK {
		t.Fatalf("Open: %v, %d", j, e)
	}
	return j
}

// corrupt looks at a plate that is no journal.
func corrupt(t *testing.T, what string, p *plate.Plate) {
	t.Helper()
	if j, e := Open(p); j != nil || e != api.ErrCorrupt {
		t.Errorf("%s: Open: %v, %d", what, j, e)
	}
}

// puts are blocks that are the same byte all over: a block, a byte, a block, a byte.
func puts(l ...int) []Put {
	var out []Put
	for i := 0; i < len(l); i += 2 {
		out = append(out, Put{l[i], full(byte(l[i+1]))})
	}
	return out
}

func commit(t *testing.T, j *Journal, l ...int) {
	t.Helper()
	is(t, "Commit", j.Commit(puts(l...)), api.OK)
}

// has looks at all blocks of a journal, each the same byte all over, and at how many puts fit.
func has(t *testing.T, what string, j *Journal, free int, l ...byte) {
	t.Helper()
	if j.Blocks() != len(l) || j.Free() != free {
		t.Errorf("%s: Blocks %d, not %d; Free %d, not %d", what, j.Blocks(), len(l), j.Free(), free)
	}
	for at, b := range l {
		if got, e := j.Read(at); e != api.OK || !bytes.Equal(got, full(b)) {
			t.Errorf("%s: Read(%d): %x, %d, not %x", what, at, got, e, b)
		}
	}
}

// refusing looks at all calls of a journal that refuses them.
func refusing(t *testing.T, what string, j *Journal, want api.Errno) {
	t.Helper()
	for _, at := range append([]int{0, 1, 2}, noBlocks...) {
		if b, e := j.Read(at); b != nil || e != want {
			t.Errorf("%s: Read(%d): %x, %d, not %d", what, at, b, e, want)
		}
		is(t, what+": Commit", j.Commit(puts(at, 1)), want)
	}
	for _, l := range [][]Put{nil, {}, {{}}, {{0, full(1)[:47]}}, puts(0, 1, 0, 2), make([]Put, 5000)} {
		is(t, what+": Commit", j.Commit(l), want)
	}
	is(t, what+": Clear", j.Clear(), want)
	if j.Blocks() != 0 || j.Free() != 0 {
		t.Errorf("%s: Blocks %d, Free %d", what, j.Blocks(), j.Free())
	}
}

// P7.1

func TestFormat(t *testing.T) {
	for _, c := range []struct{ sectors, log int }{{5, 2}, {6, 2}, {6, 3}, {20, 6}, {20, 2}, {20, 17}, {300, 256}, {1640, 824}, {4096, 2}, {4096, 4093}} {
		p, j := fresh(t, c.sectors, c.log)
		heads := [][]byte{madeHead(1, uint16(c.log), 0, 1), madeHead(2, uint16(c.log), 0, 1)}
		stands(t, "formatted", p, heads...)
		has(t, "formatted", j, c.log-1, make([]byte, c.sectors-2-c.log)...)
		stands(t, "read", p, heads...)
		has(t, "opened", opened(t, p), c.log-1, make([]byte, c.sectors-2-c.log)...)
	}
}

func TestFormatOfWhatWasWritten(t *testing.T) {
	p := newPlate(t, 9)
	for at := range 9 {
		is(t, "plate.Write", p.Write(at, bytes.Repeat([]byte{byte(at + 1)}, 64)), api.OK)
		if at == 5 {
			is(t, "plate.Flush", p.Flush(), api.OK)
		}
	}
	j, e := Format(p, 4)
	is(t, "Format", e, api.OK)
	stands(t, "formatted", p, madeHead(1, 4, 0, 1), madeHead(2, 4, 0, 1))
	has(t, "formatted", j, 3, 0, 0, 0)
	commit(t, j, 1, 1)
	is(t, "Clear", j.Clear(), api.OK)
	commit(t, j, 2, 2)
	j, e = Format(p, 3)
	is(t, "Format of a journal", e, api.OK)
	stands(t, "formatted again", p, madeHead(1, 3, 0, 1), madeHead(2, 3, 0, 1))
	has(t, "formatted again", j, 2, 0, 0, 0, 0)
}

func TestFormatRange(t *testing.T) {
	for size := 1; size <= 12; size++ {
		for log := -3; log <= 15; log++ {
			p := newPlate(t, size, bytes.Repeat([]byte{7}, 64))
			j, e := Format(p, log)
			if may := log >= 2 && size-2-log >= 1; may {
				if j == nil || e != api.OK {
					t.Errorf("%d sectors, a log of %d: %d", size, log, e)
				}
				continue
			}
			if j != nil || e != api.ErrRange {
				t.Errorf("%d sectors, a log of %d: %v, %d", size, log, j, e)
			}
			stands(t, "refused", p, bytes.Repeat([]byte{7}, 64))
		}
	}
	for _, log := range []int{math.MinInt, math.MinInt + 2, -1 << 32, 1 << 16, 1<<16 + 6, 1<<32 + 6, math.MaxInt - 1, math.MaxInt} {
		if j, e := Format(newPlate(t, 20), log); j != nil || e != api.ErrRange {
			t.Errorf("a log of %d: %v, %d", log, j, e)
		}
	}
}

func TestFormatRefusesAPlate(t *testing.T) {
	gone := newPlate(t, 20)
	is(t, "Crash", gone.Crash(nil), api.OK)
	for _, log := range []int{math.MinInt, -1, 0, 1, 2, 6, 17, 18, math.MaxInt} {
		for what, c := range map[string]struct {
			p *plate.Plate
			e api.Errno
		}{"nil": {nil, api.ErrNil}, "a zero one": {&plate.Plate{}, api.ErrNil}, "a dead one": {gone, api.ErrDead}} {
			if j, e := Format(c.p, log); j != nil || e != c.e {
				t.Errorf("%s: Format(%d): %v, %d", what, log, j, e)
			}
		}
	}
}

// TestFormatByOrder: in the stead of each doing the power goes, while all that waits stays, or none.
func TestFormatByOrder(t *testing.T) {
	const size, log = 9, 4
	old := func(at int) []byte { return bytes.Repeat([]byte{byte(at + 1)}, 64) }
	order := []int{2, 3, 4, 5, 6, 7, 8, -1, 0, 1, -1}
	for n := range len(order) + 1 {
		for _, stay := range []bool{false, true} {
			p := newPlate(t, size)
			want := make([][]byte, size)
			for at := range size {
				lay(t, p, at, old(at))
				want[at] = old(at)
			}
			is(t, "Fail", p.Fail(n, slices.Repeat([]bool{stay}, size)), api.OK)
			j, e := Format(p, log)
			if n == len(order) {
				if j == nil || e != api.OK || p.Dead() {
					t.Errorf("%d doings: %d", n, e)
				}
				continue
			}
			if j != nil || e != api.ErrDead || !p.Dead() {
				t.Errorf("behind %d: %v, %d", n, j, e)
			}
			flushed := slices.Index(order[:n], -1)
			for i, at := range order[:n] {
				if at >= 0 && (stay || i < flushed) {
					want[at] = noughts
					if at < 2 {
						want[at] = madeHead(uint64(at+1), log, 0, 1)
					}
				}
			}
			is(t, "Boot", p.Boot(), api.OK)
			stands(t, "failed", p, want...)
		}
	}
}

func TestNone(t *testing.T) {
	var none *Journal
	refusing(t, "nil", none, api.ErrNil)
	refusing(t, "a zero one", &Journal{}, api.ErrNil)
}

func TestBroken(t *testing.T) {
	for what, call := range map[string]func(j *Journal) api.Errno{
		"Commit": func(j *Journal) api.Errno { return j.Commit(puts(0, 9)) },
		"Clear":  (*Journal).Clear,
	} {
		for n := range 3 {
			p, j := fresh(t, 9, 4)
			is(t, "Fail", p.Fail(n, nil), api.OK)
			is(t, what, call(j), api.ErrDead)
			refusing(t, what+", dead", j, api.ErrDead)
			is(t, "Boot", p.Boot(), api.OK)
			refusing(t, what+", booted", j, api.ErrDead)
			has(t, what+", opened", opened(t, p), 3, 0, 0, 0)
			refusing(t, what+", opened", j, api.ErrDead)
		}
	}
	p, j := fresh(t, 9, 4)
	is(t, "Crash", p.Crash(nil), api.OK)
	if b, e := j.Read(1); b != nil || e != api.ErrDead {
		t.Errorf("Read: %x, %d", b, e)
	}
	is(t, "Boot", p.Boot(), api.OK)
	refusing(t, "Read, booted", j, api.ErrDead)
}

func TestNotBroken(t *testing.T) {
	p, j := fresh(t, 9, 4)
	j.Read(3)
	j.Commit(puts(3, 1))
	j.Commit(puts(0, 1, 0, 1))
	j.Commit(make([]Put, 9))
	lay(t, p, 7, madeHome(0, 1))
	if _, e := j.Read(1); e != api.ErrCorrupt {
		t.Errorf("Read of a home of another block: %d", e)
	}
	lay(t, p, 7, noughts)
	has(t, "behind its own errors", j, 3, 0, 0, 0)
	is(t, "Crash", p.Crash(nil), api.OK)
	is(t, "Boot", p.Boot(), api.OK)
	has(t, "the plate fell, and came back, unseen", j, 3, 0, 0, 0)
	commit(t, j, 0, 5)
	has(t, "it goes on", j, 1, 5, 0, 0)
}

// P7.2

func TestOpenRefusesAPlate(t *testing.T) {
	gone, _ := fresh(t, 9, 4)
	is(t, "Crash", gone.Crash(nil), api.OK)
	for what, c := range map[string]struct {
		p *plate.Plate
		e api.Errno
	}{"nil": {nil, api.ErrNil}, "a zero one": {&plate.Plate{}, api.ErrNil}, "a dead one": {gone, api.ErrDead}} {
		if j, e := Open(c.p); j != nil || e != c.e {
			t.Errorf("%s: Open: %v, %d", what, j, e)
		}
	}
}

func TestOpenFlushes(t *testing.T) {
	p, _ := fresh(t, 9, 4)
	for at, b := range [][]byte{madeEntry(1, 2, 7), madeEnd(1, 1)} {
		is(t, "plate.Write", p.Write(2+at, b), api.OK)
	}
	is(t, "Fail", p.Fail(0, nil), api.OK)
	if j, e := Open(p); j != nil || e != api.ErrDead {
		t.Errorf("Open of a plate that fails: %v, %d", j, e)
	}
	is(t, "Boot", p.Boot(), api.OK)
	has(t, "nothing stayed", opened(t, p), 3, 0, 0, 0)

	for at, b := range [][]byte{madeEntry(1, 2, 7), madeEnd(1, 1)} {
		is(t, "plate.Write", p.Write(2+at, b), api.OK)
	}
	is(t, "Fail", p.Fail(1, nil), api.OK)
	j := opened(t, p)
	stands(t, "opened", p, madeHead(1, 4, 0, 1), madeHead(2, 4, 0, 1), madeEntry(1, 2, 7), madeEnd(1, 1))
	has(t, "opened", j, 1, 0, 0, 7)
	is(t, "Clear, in the stead of whose first doing the power goes", j.Clear(), api.ErrDead)
	is(t, "Boot", p.Boot(), api.OK)
	has(t, "all of it stayed", opened(t, p), 1, 0, 0, 7)
}

func TestOpenFlushesAheadOfItsLooks(t *testing.T) {
	p := newPlate(t, 9)
	is(t, "Fail", p.Fail(0, nil), api.OK)
	if j, e := Open(p); j != nil || e != api.ErrDead {
		t.Errorf("Open of a plate that fails, and is none: %v, %d", j, e)
	}
}

func TestOpenOfWhatIsNone(t *testing.T) {
	for size := 1; size < 12; size++ {
		corrupt(t, "noughts", newPlate(t, size))
		var l [][]byte
		for range size {
			l = append(l, bytes.Repeat([]byte{1}, 64))
		}
		corrupt(t, "ones", newPlate(t, size, l...))
		for log := range uint16(14) {
			p := newPlate(t, size, madeHead(1, log, 0, 1))
			corrupt(t, "one head", p)
			if size == 1 {
				continue
			}
			lay(t, p, 1, madeHead(2, log, 0, 1))
			if may := log >= 2 && size-2-int(log) >= 1; may {
				has(t, "two heads", opened(t, p), int(log)-1, make([]byte, size-2-int(log))...)
			} else {
				corrupt(t, "a log that may not be", p)
			}
		}
	}
	for _, log := range []uint16{4093, 4094, 4096, 1 << 15, 1<<16 - 1} {
		p := newPlate(t, 4096, madeHead(1, log, 0, 1), madeHead(2, log, 0, 1))
		if log == 4093 {
			has(t, "the greatest log", opened(t, p), 4092, 0)
		} else {
			corrupt(t, "a log that may not be", p)
		}
	}
}

// with is a sector with other bytes from a place on, and the sum of that.
func with(b []byte, at int, l ...byte) []byte {
	out := slices.Clone(b)
	copy(out[at:], l)
	return binary.BigEndian.AppendUint64(out[:56], crc64.Checksum(out[:56], crc64.MakeTable(crc64.ECMA)))
}

func TestOpenHeads(t *testing.T) {
	const most = 1<<40 - 1
	good := madeHead(2, 4, 0, 1)
	for what, c := range map[string]struct {
		one, other []byte
		ok         bool
	}{
		"1, 2":                            {madeHead(1, 4, 0, 1), good, true},
		"3, 2":                            {madeHead(3, 4, 0, 1), good, true},
		"3, 4":                            {madeHead(3, 4, 2, 3), madeHead(4, 4, 1, 5), true},
		"5, 4":                            {madeHead(5, 4, 2, 3), madeHead(4, 4, 1, 5), true},
		"255, 256":                        {madeHead(255, 4, 0, 1), madeHead(256, 4, 0, 1), true},
		"257, 256":                        {madeHead(257, 4, 0, 1), madeHead(256, 4, 0, 1), true},
		"great turns":                     {madeHead(most, 4, 3, most), madeHead(most-1, 4, 3, most), true},
		"1, 4":                            {madeHead(1, 4, 0, 1), madeHead(4, 4, 0, 1), false},
		"5, 2":                            {madeHead(5, 4, 0, 1), good, false},
		"1, 1":                            {madeHead(1, 4, 0, 1), madeHead(1, 4, 0, 1), false},
		"2, 2":                            {good, good, false},
		"257, 2":                          {madeHead(257, 4, 0, 1), good, false},
		"1 and 2^32, 2":                   {madeHead(1<<32+1, 4, 0, 1), good, false},
		"the first and the last turn":     {madeHead(1, 4, 0, 1), madeHead(most, 4, 0, 1), false},
		"1, 0":                            {madeHead(1, 4, 0, 1), madeHead(0, 4, 0, 1), false},
		"noughts":                         {noughts, good, false},
		"noughts, too":                    {madeHead(1, 4, 0, 1), noughts, false},
		"another L":                       {madeHead(1, 3, 0, 1), good, false},
		"another L, too":                  {madeHead(3, 3, 0, 1), good, false},
		"a kind 0":                        {with(madeHead(1, 4, 0, 1), 0, 0), good, false},
		"an entry":                        {with(madeHead(1, 4, 0, 1), 0, 2), good, false},
		"an end":                          {with(madeHead(1, 4, 0, 1), 0, 3), good, false},
		"a home":                          {with(madeHead(1, 4, 0, 1), 0, 4), good, false},
		"a kind 255":                      {with(madeHead(1, 4, 0, 1), 0, 255), good, false},
		"an entry instead of the other":   {madeHead(1, 4, 0, 1), with(good, 0, 2), false},
		"the last place":                  {madeHead(1, 4, 3, 1), good, true},
		"a place that is none":            {madeHead(1, 4, 4, 1), good, false},
		"the other's place that is none":  {madeHead(1, 4, 0, 1), madeHead(2, 4, 4, 1), false},
		"a great place":                   {madeHead(1, 4, 1<<15, 1), good, false},
		"a place's higher byte":           {madeHead(1, 4, 0x100, 1), good, false},
		"a turn 0":                        {madeHead(1, 4, 0, 0), good, false},
		"the other's turn 0":              {madeHead(1, 4, 0, 1), madeHead(2, 4, 0, 0), false},
		"a turn that only is high":        {madeHead(1, 4, 0, 1<<32), good, true},
		"no noughts at the data's 7":      {with(madeHead(1, 4, 0, 1), 8+7, 1), good, false},
		"no noughts at the data's end":    {with(madeHead(1, 4, 0, 1), 8+47, 128), good, false},
		"the other's no noughts":          {madeHead(1, 4, 0, 1), with(good, 8+30, 1), false},
		"a sum that is none":              {append(madeHead(1, 4, 0, 1)[:56], make([]byte, 8)...), good, false},
		"a sum turned over":               {madeHead(1, 4, 0, 1), append(good[:56:56], turnedOver(good[56:])...), false},
		"a sum with the lowest one first": {madeHead(1, 4, 0, 1), append(good[:56:56], backwards(good[56:])...), false},
	} {
		p := newPlate(t, 9, c.one, c.other)
		if c.ok {
			has(t, what, opened(t, p), 3, 0, 0, 0)
		} else {
			corrupt(t, what, p)
		}
		stands(t, what, p, c.one, c.other)
	}
}

func turnedOver(b []byte) []byte {
	out := slices.Clone(b)
	for i := range out {
		out[i] = ^out[i]
	}
	return out
}

func backwards(b []byte) []byte {
	out := slices.Clone(b)
	slices.Reverse(out)
	return out
}

func TestOpenReadsFromTheGreaterHead(t *testing.T) {
	log := [][]byte{madeEntry(5, 0, 11), madeEnd(5, 1), madeEntry(6, 1, 12), madeEnd(6, 1), madeEntry(7, 2, 13), madeEnd(7, 1)}
	for _, c := range []struct {
		one, other []byte
		free       int
		want       []byte
	}{
		{madeHead(1, 6, 0, 5), madeHead(2, 6, 2, 6), 1, []byte{0, 12, 13}},
		{madeHead(3, 6, 0, 5), madeHead(2, 6, 2, 6), 0, []byte{11, 12, 13}},
		{madeHead(3, 6, 2, 6), madeHead(4, 6, 4, 7), 3, []byte{0, 0, 13}},
		{madeHead(5, 6, 0, 6), madeHead(4, 6, 4, 7), 5, []byte{0, 0, 0}},
		{madeHead(5, 6, 4, 6), madeHead(4, 6, 4, 7), 5, []byte{0, 0, 0}},
		{madeHead(5, 6, 0, 8), madeHead(4, 6, 4, 7), 5, []byte{0, 0, 0}},
	} {
		p := newPlate(t, 11, append([][]byte{c.one, c.other}, log...)...)
		has(t, "opened", opened(t, p), c.free, c.want...)
	}
}

// logs are journals of 11 sectors, with a log of 6 that begins at a place with the turn 258, and 3 blocks.
var logs = []struct {
	what  string
	place int
	log   [][]byte // from the place on
	free  int      // below 0: it is corrupt
	want  []byte
}{
	{"noughts", 0, nil, 5, []byte{0, 0, 0}},
	{"an entry without its end", 0, [][]byte{madeEntry(258, 1, 7)}, 5, []byte{0, 0, 0}},
	{"one with its end", 0, [][]byte{madeEntry(258, 1, 7), madeEnd(258, 1)}, 3, []byte{0, 7, 0}},
	{"three with their end", 2, [][]byte{madeEntry(258, 1, 7), madeEntry(258, 0, 8), madeEntry(258, 2, 9), madeEnd(258, 3)}, 1, []byte{8, 7, 9}},
	{"round the ring", 5, [][]byte{madeEntry(258, 1, 7), madeEnd(258, 1), madeEntry(259, 2, 7), madeEnd(259, 1)}, 1, []byte{0, 7, 7}},
	{"five", 3, [][]byte{madeEntry(258, 1, 7), madeEntry(258, 1, 8), madeEntry(258, 2, 9), madeEntry(258, 1, 10), madeEntry(258, 0, 11), madeEnd(258, 5)}, 0, []byte{11, 10, 9}},
	{"three at once, thrice", 0, [][]byte{madeEntry(258, 1, 7), madeEnd(258, 1), madeEntry(259, 1, 8), madeEnd(259, 1), madeEntry(260, 1, 9), madeEnd(260, 1)}, 0, []byte{0, 9, 0}},
	{"five of six", 4, [][]byte{madeEntry(258, 1, 7), madeEntry(258, 0, 8), madeEnd(258, 2), madeEntry(259, 2, 9), madeEnd(259, 1)}, 0, []byte{8, 7, 9}},
	{"all six without an end", 4, [][]byte{madeEntry(258, 1, 7), madeEntry(258, 0, 8), madeEntry(258, 1, 7), madeEntry(258, 0, 8), madeEntry(258, 1, 7), madeEntry(258, 0, 8)}, 5, []byte{0, 0, 0}},
	{"one, and four without an end", 4, [][]byte{madeEntry(258, 1, 7), madeEnd(258, 1), madeEntry(259, 1, 8), madeEntry(259, 2, 8), madeEntry(259, 0, 8), madeEntry(259, 1, 8)}, 3, []byte{0, 7, 0}},
	{"behind noughts", 0, [][]byte{noughts, madeEntry(258, 1, 7), madeEnd(258, 1)}, 5, []byte{0, 0, 0}},
	{"noughts ahead of the end", 0, [][]byte{madeEntry(258, 1, 7), noughts, madeEnd(258, 1)}, 5, []byte{0, 0, 0}},
	{"noughts between", 0, [][]byte{madeEntry(258, 1, 7), madeEnd(258, 1), noughts, madeEntry(259, 1, 8), madeEnd(259, 1)}, 3, []byte{0, 7, 0}},
	{"an older turn", 0, [][]byte{madeEntry(257, 1, 7), madeEnd(257, 1)}, 5, []byte{0, 0, 0}},
	{"a later turn", 0, [][]byte{madeEntry(259, 1, 7), madeEnd(259, 1)}, 5, []byte{0, 0, 0}},
	{"the turn's lowest byte alone", 0, [][]byte{madeEntry(2, 1, 7), madeEnd(2, 1)}, 5, []byte{0, 0, 0}},
	{"the turn, and a highest byte", 0, [][]byte{madeEntry(1<<32+258, 1, 7), madeEnd(1<<32+258, 1)}, 5, []byte{0, 0, 0}},
	{"the same turn twice", 0, [][]byte{madeEntry(258, 1, 7), madeEnd(258, 1), madeEntry(258, 1, 8), madeEnd(258, 1)}, 3, []byte{0, 7, 0}},
	{"a turn left out", 0, [][]byte{madeEntry(258, 1, 7), madeEnd(258, 1), madeEntry(260, 1, 8), madeEnd(260, 1)}, 3, []byte{0, 7, 0}},
	{"another turn's end", 0, [][]byte{madeEntry(258, 1, 7), madeEnd(259, 1)}, 5, []byte{0, 0, 0}},
	{"another turn's entry ahead of the end", 0, [][]byte{madeEntry(258, 1, 7), madeEntry(257, 2, 7), madeEnd(258, 1)}, 5, []byte{0, 0, 0}},
	{"an older end first", 0, [][]byte{madeEnd(257, 9)}, 5, []byte{0, 0, 0}},
	{"an older turn's block that is none", 0, [][]byte{madeEntry(257, 3, 7)}, 5, []byte{0, 0, 0}},
	{"a block that is none, without its end", 0, [][]byte{madeEntry(258, 3, 7)}, 5, []byte{0, 0, 0}},
	{"a block that is none, another turn behind it", 0, [][]byte{madeEntry(258, 3, 7), madeEnd(257, 1)}, 5, []byte{0, 0, 0}},
	{"an older end with data", 0, [][]byte{made(3, 257, 1, 1)}, 5, []byte{0, 0, 0}},

	{"a block that is none", 0, [][]byte{madeEntry(258, 3, 7), madeEnd(258, 1)}, -1, nil},
	{"a block that is none, first", 0, [][]byte{madeEntry(258, 3, 7), madeEntry(258, 1, 7), madeEnd(258, 2)}, -1, nil},
	{"a great block that is none", 0, [][]byte{madeEntry(258, 1, 7), madeEntry(258, 1<<16-1, 7), madeEnd(258, 2)}, -1, nil},
	{"an end that tells less", 0, [][]byte{madeEntry(258, 1, 7), madeEntry(258, 2, 7), madeEnd(258, 1)}, -1, nil},
	{"an end that tells more", 0, [][]byte{madeEntry(258, 1, 7), madeEnd(258, 2)}, -1, nil},
	{"an end that tells none", 0, [][]byte{madeEntry(258, 1, 7), madeEnd(258, 0)}, -1, nil},
	{"an end that tells more in its higher byte", 0, [][]byte{madeEntry(258, 1, 7), madeEnd(258, 257)}, -1, nil},
	{"an end of none", 0, [][]byte{madeEnd(258, 0)}, -1, nil},
	{"an end alone", 0, [][]byte{madeEnd(258, 1)}, -1, nil},
	{"a second end", 0, [][]byte{madeEntry(258, 1, 7), madeEnd(258, 1), madeEnd(259, 0)}, -1, nil},
	{"a second end that tells one", 0, [][]byte{madeEntry(258, 1, 7), madeEnd(258, 1), madeEnd(259, 1)}, -1, nil},
	{"an end with data", 0, [][]byte{madeEntry(258, 1, 7), made(3, 258, 1, 1)}, -1, nil},
	{"an end with data, far behind", 0, [][]byte{madeEntry(258, 1, 7), with(madeEnd(258, 1), 55, 1)}, -1, nil},
	{"a later one's end that tells more", 3, [][]byte{madeEntry(258, 1, 7), madeEnd(258, 1), madeEntry(259, 2, 8), madeEnd(259, 2)}, -1, nil},
	{"a head", 0, [][]byte{madeHead(258, 6, 0, 1)}, -1, nil},
	{"a home", 0, [][]byte{madeHome(1, 7)}, -1, nil},
	{"a home behind an entry", 0, [][]byte{madeEntry(258, 1, 7), madeHome(1, 7), madeEnd(258, 1)}, -1, nil},
	{"a kind 0", 0, [][]byte{made(0, 258, 1, 1)}, -1, nil},
	{"noughts with their sum", 0, [][]byte{made(0, 0, 0)}, -1, nil},
	{"a kind 5", 0, [][]byte{made(5, 258, 1)}, -1, nil},
	{"another turn's kind 5", 0, [][]byte{made(5, 7, 1)}, -1, nil},
	{"no sum", 0, [][]byte{append(madeEntry(258, 1, 7)[:56], make([]byte, 8)...)}, -1, nil},
	{"another turn without its sum", 0, [][]byte{append(madeEntry(7, 1, 7)[:56], make([]byte, 8)...)}, -1, nil},
	{"an end without its sum", 0, [][]byte{madeEntry(258, 1, 7), append(madeEnd(258, 1)[:56], make([]byte, 8)...)}, -1, nil},
	{"no sum where it goes on", 0, [][]byte{madeEntry(258, 1, 7), madeEnd(258, 1), append(madeEntry(7, 1, 7)[:56], 1, 2, 3, 4, 5, 6, 7, 8)}, -1, nil},
	{"a home where it goes on", 0, [][]byte{madeEntry(258, 1, 7), madeEnd(258, 1), madeHome(1, 7)}, -1, nil},
	{"a sector of a sum alone", 0, [][]byte{append(make([]byte, 63), 1)}, -1, nil},
	{"no sum behind where it goes on", 0, [][]byte{madeEntry(258, 1, 7), madeEnd(258, 1), madeEntry(7, 1, 7), append(make([]byte, 63), 1)}, 3, []byte{0, 7, 0}},
	{"no sum behind noughts", 0, [][]byte{noughts, append(make([]byte, 63), 1)}, 5, []byte{0, 0, 0}},
}

// plateOfLog is the plate of a row of logs.
func plateOfLog(t *testing.T, place int, log [][]byte) *plate.Plate {
	t.Helper()
	p := newPlate(t, 11, madeHead(7, 6, 0, 1), madeHead(8, 6, uint16(place), 258))
	for i, b := range log {
		lay(t, p, 2+(place+i)%6, b)
	}
	return p
}

func TestOpenLogs(t *testing.T) {
	for _, c := range logs {
		for place := range 6 {
			p := plateOfLog(t, (c.place+place)%6, c.log)
			before := sectors(t, p)
			if c.free < 0 {
				corrupt(t, c.what, p)
			} else {
				has(t, c.what, opened(t, p), c.free, c.want...)
			}
			stands(t, c.what, p, before...)
		}
	}
}

// TestOpenGoesOn: what is written behind Open stands where the next turn was looked for in vain, with that turn.
func TestOpenGoesOn(t *testing.T) {
	for _, c := range logs {
		if c.free < 2 {
			continue
		}
		p := plateOfLog(t, c.place, c.log)
		want := sectors(t, p)
		j := opened(t, p)
		commit(t, j, 2, 99, 0, 98)
		used := 5 - c.free
		turn := uint64(258 + used/2)
		at := func(i int) int { return 2 + (c.place+used+i)%6 }
		want[at(0)], want[at(1)], want[at(2)] = madeEntry(turn, 2, 99), madeEntry(turn, 0, 98), madeEnd(turn, 2)
		stands(t, c.what, p, want...)
		is(t, "Clear", j.Clear(), api.OK)
		if b, _ := p.Read(0); !bytes.Equal(b, madeHead(9, 6, uint16(at(3)-2), turn+1)) {
			t.Errorf("%s: the next head: %x", c.what, b)
		}
	}
}

// TestOpenReadsLSectorsAtMost: a ring that is full begins with the turn that would come next.
func TestOpenReadsLSectorsAtMost(t *testing.T) {
	for place := range uint16(3) {
		p := newPlate(t, 6, madeHead(1, 3, 0, 1), madeHead(2, 3, place, 5))
		for i, b := range [][]byte{madeEntry(5, 0, 1), madeEntry(5, 0, 2), madeEnd(5, 2)} {
			lay(t, p, 2+(int(place)+i)%3, b)
		}
		j := opened(t, p)
		has(t, "full", j, 0, 2)
		commit(t, j, 0, 3)
		has(t, "cleared first", j, 0, 3)
		if b, _ := p.Read(2 + int(place)); !bytes.Equal(b, madeEntry(6, 0, 3)) {
			t.Errorf("place %d: %x", place, b)
		}
	}
}

func TestOpenKeepsItsTurn(t *testing.T) {
	p, j := fresh(t, 11, 6)
	for i := range 40 {
		commit(t, j, i%3, i+1)
		j = opened(t, p)
		if i%7 == 3 {
			is(t, "Clear", j.Clear(), api.OK)
			j = opened(t, p)
		}
	}
	var turns []int
	for _, b := range sectors(t, p)[2:8] {
		if b[0] == 3 {
			turns = append(turns, int(b[5]))
		}
	}
	slices.Sort(turns)
	if !slices.Equal(turns, []int{38, 39, 40}) {
		t.Errorf("ends of the turns %v", turns)
	}
}

// P7.3

func TestRead(t *testing.T) {
	p, j := fresh(t, 11, 6)
	commit(t, j, 1, 5)
	has(t, "one pending", j, 3, 0, 5, 0)
	is(t, "Clear", j.Clear(), api.OK)
	has(t, "one at home", j, 5, 0, 5, 0)
	commit(t, j, 1, 6, 2, 0)
	has(t, "pending and at home", j, 2, 0, 6, 0)
	has(t, "opened", opened(t, p), 2, 0, 6, 0)
	is(t, "Clear", j.Clear(), api.OK)
	has(t, "noughts at home", j, 5, 0, 6, 0)
	if b, _ := p.Read(10); !bytes.Equal(b, madeHome(2, 0)) {
		t.Errorf("a home of noughts: %x", b)
	}
}

func TestReadRange(t *testing.T) {
	p, j := fresh(t, 11, 6)
	commit(t, j, 0, 1, 2, 3)
	for _, k := range []*Journal{j, opened(t, p)} {
		for _, at := range append([]int{3, 4, 5, 9, 65536}, noBlocks...) {
			if b, e := k.Read(at); b != nil || e != api.ErrRange {
				t.Errorf("Read(%d): %x, %d", at, b, e)
			}
		}
	}
}

func TestReadIsNoDoing(t *testing.T) {
	p, j := fresh(t, 11, 6)
	commit(t, j, 0, 1)
	is(t, "Fail", p.Fail(0, nil), api.OK)
	has(t, "to fail", j, 3, 1, 0, 0)
	is(t, "Commit of nothing", j.Commit(nil), api.OK)
	is(t, "Commit of nothing", j.Commit([]Put{}), api.OK)
	is(t, "Commit", j.Commit(puts(0, 1)), api.ErrDead)
}

func TestReadOfHomes(t *testing.T) {
	for what, c := range map[string]struct {
		home []byte
		want byte
		ok   bool
	}{
		"noughts":             {noughts, 0, true},
		"a right one":         {madeHome(1, 9), 9, true},
		"of noughts":          {madeHome(1, 0), 0, true},
		"another number":      {madeHome(0, 9), 0, false},
		"a higher byte":       {madeHome(257, 9), 0, false},
		"a turn":              {made(4, 1, 1, full(9)...), 0, false},
		"a high turn":         {made(4, 1<<39, 1, full(9)...), 0, false},
		"a kind 0":            {made(0, 0, 1, full(9)...), 0, false},
		"a head":              {made(1, 0, 1, full(9)...), 0, false},
		"an entry":            {made(2, 0, 1, full(9)...), 0, false},
		"an end":              {made(3, 0, 1, full(9)...), 0, false},
		"a kind 5":            {made(5, 0, 1, full(9)...), 0, false},
		"another sum":         {append(madeHome(1, 9)[:56], make([]byte, 8)...), 0, false},
		"noughts and a sum":   {made(0, 0, 0), 0, false},
		"noughts, and a one":  {append(make([]byte, 63), 1), 0, false},
		"a one, and noughts":  {append([]byte{1}, make([]byte, 63)...), 0, false},
		"data, and no sum":    {append(append(make([]byte, 8), full(1)...), make([]byte, 8)...), 0, false},
		"ones all over":       {bytes.Repeat([]byte{1}, 64), 0, false},
		"a sum of other data": {append(madeHome(1, 9)[:56], madeHome(1, 8)[56:]...), 0, false},
	} {
		p, j := fresh(t, 11, 6)
		commit(t, j, 2, 7)
		lay(t, p, 2+6+1, c.home)
		for _, k := range []*Journal{j, opened(t, p)} {
			if b, e := k.Read(1); c.ok && (e != api.OK || !bytes.Equal(b, full(c.want))) || !c.ok && (b != nil || e != api.ErrCorrupt) {
				t.Errorf("%s: %x, %d", what, b, e)
			}
		}
		commit(t, j, 1, 3)
		has(t, what+", and it is pending", j, 1, 0, 3, 7)
		has(t, what+", opened", opened(t, p), 1, 0, 3, 7)
		is(t, "Clear", j.Clear(), api.OK)
		has(t, what+", written anew", j, 5, 0, 3, 7)
	}
}

// P7.4

func TestCommit(t *testing.T) {
	p, j := fresh(t, 20, 6)
	one, two := madeHead(1, 6, 0, 1), madeHead(2, 6, 0, 1)
	commit(t, j, 3, 1, 5, 2)
	stands(t, "two", p, one, two, madeEntry(1, 3, 1), madeEntry(1, 5, 2), madeEnd(1, 2))
	has(t, "two", j, 2, 0, 0, 0, 1, 0, 2, 0, 0, 0, 0, 0, 0)
	commit(t, j, 11, 4, 0, 3)
	stands(t, "two more", p, one, two, madeEntry(1, 3, 1), madeEntry(1, 5, 2), madeEnd(1, 2), madeEntry(2, 11, 4), madeEntry(2, 0, 3), madeEnd(2, 2))
	has(t, "two more", j, 0, 3, 0, 0, 1, 0, 2, 0, 0, 0, 0, 0, 4)
	commit(t, j, 3, 6)
	want := [][]byte{madeHead(3, 6, 0, 3), two, madeEntry(3, 3, 6), madeEnd(3, 1), madeEnd(1, 2), madeEntry(2, 11, 4), madeEntry(2, 0, 3), madeEnd(2, 2), 19: noughts}
	for at := range want {
		if want[at] == nil {
			want[at] = noughts
		}
	}
	want[8+0], want[8+3], want[8+5], want[8+11] = madeHome(0, 3), madeHome(3, 1), madeHome(5, 2), madeHome(11, 4)
	stands(t, "cleared first", p, want...)
	has(t, "cleared first", j, 3, 3, 0, 0, 6, 0, 2, 0, 0, 0, 0, 0, 4)
	commit(t, j, 1, 1, 2, 2, 3, 3, 4, 4, 5, 5)
	want[1] = madeHead(4, 6, 2, 4)
	want[8+3] = madeHome(3, 6)
	want[4], want[5], want[6], want[7], want[2], want[3] = madeEntry(4, 1, 1), madeEntry(4, 2, 2), madeEntry(4, 3, 3), madeEntry(4, 4, 4), madeEntry(4, 5, 5), madeEnd(4, 5)
	stands(t, "round the ring", p, want...)
	has(t, "round the ring", j, 0, 3, 1, 2, 3, 4, 5, 0, 0, 0, 0, 0, 4)
}

func TestCommitRefuses(t *testing.T) {
	p, j := fresh(t, 20, 6)
	commit(t, j, 3, 1)
	before := sectors(t, p)
	short := Put{1, full(1)[:47]}
	for what, c := range map[string]struct {
		l []Put
		e api.Errno
	}{
		"the block 12":                                {puts(12, 1), api.ErrRange},
		"the block -1":                                {puts(-1, 1), api.ErrRange},
		"a block that is none, without data":          {[]Put{{12, nil}}, api.ErrRange},
		"a block that is none twice":                  {puts(12, 1, 12, 1), api.ErrRange},
		"no data":                                     {[]Put{{0, nil}}, api.ErrArg},
		"data of no bytes":                            {[]Put{{0, []byte{}}}, api.ErrArg},
		"data of 47 bytes":                            {[]Put{short}, api.ErrArg},
		"data of 49 bytes":                            {[]Put{{0, make([]byte, 49)}}, api.ErrArg},
		"data of 64 bytes":                            {[]Put{{0, make([]byte, 64)}}, api.ErrArg},
		"data of 96 bytes":                            {[]Put{{0, make([]byte, 96)}}, api.ErrArg},
		"a block twice":                               {puts(1, 1, 1, 2), api.ErrArg},
		"a block twice, with the same data":           {puts(1, 1, 1, 1), api.ErrArg},
		"a block twice, another one between":          {puts(1, 1, 2, 2, 1, 1), api.ErrArg},
		"a block twice, short":                        {append(puts(1, 1), short), api.ErrArg},
		"the second one's block":                      {puts(1, 1, 12, 2), api.ErrRange},
		"the second one's data":                       {append(puts(2, 1), short), api.ErrArg},
		"data ahead of a block":                       {append([]Put{short}, puts(12, 1)...), api.ErrArg},
		"a block ahead of data":                       {append(puts(12, 1), short), api.ErrRange},
		"twice ahead of a block":                      {puts(1, 1, 1, 2, 12, 1), api.ErrArg},
		"a block ahead of twice":                      {puts(1, 1, 12, 1, 1, 2), api.ErrRange},
		"six":                                         {puts(0, 1, 1, 1, 2, 1, 3, 1, 4, 1, 5, 1), api.ErrFull},
		"all twelve":                                  {puts(0, 1, 1, 1, 2, 1, 3, 1, 4, 1, 5, 1, 6, 1, 7, 1, 8, 1, 9, 1, 10, 1, 11, 1), api.ErrFull},
		"six, the sixth one's data":                   {append(puts(0, 1, 4, 1, 2, 1, 3, 1, 5, 1), short), api.ErrArg},
		"six, the sixth one's block":                  {puts(0, 1, 1, 1, 2, 1, 3, 1, 4, 1, 12, 1), api.ErrRange},
		"seven, the seventh one twice":                {puts(0, 1, 1, 1, 2, 1, 3, 1, 4, 1, 5, 1, 0, 1), api.ErrArg},
		"five thousand, the second one without data ": {append(puts(1, 1), make([]Put, 4999)...), api.ErrArg},
	} {
		is(t, what, j.Commit(c.l), c.e)
		stands(t, what, p, before...)
		has(t, what, j, 3, 0, 0, 0, 1, 0, 0, 0, 0, 0, 0, 0, 0)
	}
	for _, at := range append([]int{12, 13, 18, 19, 65536, 65537}, noBlocks...) {
		is(t, "a block that is none", j.Commit(puts(0, 1, at, 1)), api.ErrRange)
	}
	stands(t, "behind all that was refused", p, before...)
	commit(t, j, 4, 4)
	has(t, "it goes on", j, 1, 0, 0, 0, 1, 4, 0, 0, 0, 0, 0, 0, 0)
}

func TestCommitOfNothing(t *testing.T) {
	for i := range 4 {
		p, j := fresh(t, 20, 4)
		for n := range i {
			commit(t, j, n, 1)
		}
		before, free := sectors(t, p), j.Free()
		is(t, "Commit(nil)", j.Commit(nil), api.OK)
		is(t, "Commit of none", j.Commit([]Put{}), api.OK)
		stands(t, "nothing", p, before...)
		if j.Free() != free {
			t.Errorf("Free %d, not %d", j.Free(), free)
		}
	}
}

func TestFree(t *testing.T) {
	for log := 2; log < 9; log++ {
		for first := 1; first < log; first++ {
			for second := 1; second < log; second++ {
				p, j := fresh(t, 20, log)
				l := puts(0, 1, 1, 1, 2, 1, 3, 1, 4, 1, 5, 1, 6, 1, 7, 1)
				is(t, "Commit", j.Commit(l[:first]), api.OK)
				free := max(0, log-(first+1)-1)
				if j.Free() != free || opened(t, p).Free() != free {
					t.Fatalf("%d of %d: Free %d, %d", first, log, j.Free(), opened(t, p).Free())
				}
				is(t, "Commit", j.Commit(l[:second]), api.OK)
				if second <= free {
					free = max(0, log-(first+1)-(second+1)-1)
				} else {
					free = max(0, log-(second+1)-1)
				}
				if j.Free() != free || opened(t, p).Free() != free {
					t.Fatalf("%d, then %d of %d: Free %d, %d", first, second, log, j.Free(), opened(t, p).Free())
				}
				head, _ := p.Read(0)
				if cleared := head[5] == 3; cleared != (second > log-(first+1)-1) {
					t.Errorf("%d, then %d of %d: the head %x", first, second, log, head)
				}
			}
		}
	}
}

func TestClear(t *testing.T) {
	p, j := fresh(t, 11, 6)
	two := madeHead(2, 6, 0, 1)
	is(t, "Clear of nothing", j.Clear(), api.OK)
	stands(t, "nothing", p, madeHead(3, 6, 0, 1), two)
	is(t, "Clear of nothing", j.Clear(), api.OK)
	stands(t, "nothing again", p, madeHead(3, 6, 0, 1), madeHead(4, 6, 0, 1))
	has(t, "nothing", j, 5, 0, 0, 0)

	p, j = fresh(t, 11, 6)
	commit(t, j, 2, 7)
	commit(t, j, 0, 5, 2, 8)
	is(t, "Clear", j.Clear(), api.OK)
	log := [][]byte{madeEntry(1, 2, 7), madeEnd(1, 1), madeEntry(2, 0, 5), madeEntry(2, 2, 8), madeEnd(2, 2), noughts}
	homes := [][]byte{madeHome(0, 5), noughts, madeHome(2, 8)}
	stands(t, "cleared", p, slices.Concat([][]byte{madeHead(3, 6, 5, 3), two}, log, homes)...)
	has(t, "cleared", j, 5, 5, 0, 8)
	has(t, "opened", opened(t, p), 5, 5, 0, 8)
	commit(t, j, 1, 6)
	log[5], log[0] = madeEntry(3, 1, 6), madeEnd(3, 1)
	stands(t, "round the ring", p, slices.Concat([][]byte{madeHead(3, 6, 5, 3), two}, log, homes)...)
	is(t, "Clear", j.Clear(), api.OK)
	homes[1] = madeHome(1, 6)
	stands(t, "cleared again", p, slices.Concat([][]byte{madeHead(3, 6, 5, 3), madeHead(4, 6, 1, 4)}, log, homes)...)
	is(t, "Clear", j.Clear(), api.OK)
	stands(t, "cleared thrice", p, slices.Concat([][]byte{madeHead(5, 6, 1, 4), madeHead(4, 6, 1, 4)}, log, homes)...)
}

func TestNothingIsPendingBehindClear(t *testing.T) {
	p, j := fresh(t, 11, 6)
	commit(t, j, 0, 5, 2, 8)
	is(t, "Clear", j.Clear(), api.OK)
	is(t, "Turn", p.Turn(8, 99), api.OK)
	turned := sectors(t, p)
	if b, e := j.Read(0); b != nil || e != api.ErrCorrupt {
		t.Errorf("Read of a home that was turned: %x, %d", b, e)
	}
	is(t, "Fail", p.Fail(3, nil), api.OK)
	is(t, "Clear of nothing", j.Clear(), api.OK)
	turned[1] = madeHead(4, 6, 3, 2)
	stands(t, "cleared again", p, turned...)
	is(t, "the fourth doing", p.Flush(), api.ErrDead)
}

func TestManyClears(t *testing.T) {
	p, j := fresh(t, 6, 2)
	for i := range 300 {
		commit(t, j, i%2, i)
	}
	last := madeEntry(300, 1, 299-256)
	stands(t, "three hundred", p, madeHead(301, 2, 0, 300), madeHead(300, 2, 0, 299), last, madeEnd(300, 1), madeHome(0, 298-256), madeHome(1, 297-256))
	has(t, "three hundred", j, 0, 298-256, 299-256)
}

// TestDoings: in the stead of each doing the power goes, while all that waits stays, or none: that tells which ones they are, and in which order.
func TestDoings(t *testing.T) {
	one, two, three := madeHead(1, 6, 0, 1), madeHead(2, 6, 0, 1), madeHead(3, 6, 5, 3)
	log := [][]byte{madeEntry(1, 2, 7), madeEnd(1, 1), madeEntry(2, 2, 8), madeEntry(2, 0, 5), madeEnd(2, 2), noughts}
	begun := slices.Concat([][]byte{one, two}, log, [][]byte{noughts, noughts, noughts})
	type write struct {
		at int // below 0: a flush
		b  []byte
	}
	flush := write{-1, nil}
	cleared := []write{{8, madeHome(0, 5)}, {10, madeHome(2, 8)}, flush, {0, three}, flush}
	for what, c := range map[string]struct {
		call func(j *Journal) api.Errno
		l    []write
	}{
		"Clear":                           {(*Journal).Clear, cleared},
		"Commit, which is cleared ahead":  {func(j *Journal) api.Errno { return j.Commit(puts(1, 1)) }, append(slices.Clone(cleared), write{7, madeEntry(3, 1, 1)}, flush, write{2, madeEnd(3, 1)}, flush)},
		"Commit of three, cleared ahead ": {func(j *Journal) api.Errno { return j.Commit(puts(2, 1, 1, 2, 0, 3)) }, append(slices.Clone(cleared), write{7, madeEntry(3, 2, 1)}, write{2, madeEntry(3, 1, 2)}, write{3, madeEntry(3, 0, 3)}, flush, write{4, madeEnd(3, 3)}, flush)},
	} {
		for n := range len(c.l) + 1 {
			for _, stay := range []bool{false, true} {
				p, j := fresh(t, 11, 6)
				commit(t, j, 2, 7)
				commit(t, j, 2, 8, 0, 5)
				is(t, "Fail", p.Fail(n, slices.Repeat([]bool{stay}, 11)), api.OK)
				e := c.call(j)
				if n == len(c.l) {
					is(t, what, e, api.OK)
				} else {
					is(t, what, e, api.ErrDead)
					is(t, "Boot", p.Boot(), api.OK)
				}
				want := slices.Clone(begun)
				seen := slices.Clone(begun)
				for _, w := range c.l[:n] {
					if w.at < 0 {
						want = slices.Clone(seen)
					} else {
						seen[w.at] = w.b
					}
				}
				if stay {
					want = seen
				}
				stands(t, what, p, want...)
			}
		}
	}
}

// TestLastTurn: a turn has five bytes; what would need more is refused, and spoils nothing.
func TestLastTurn(t *testing.T) {
	const most = 1<<40 - 1
	p := newPlate(t, 9, madeHead(1, 4, 0, most), madeHead(2, 4, 0, most))
	j := opened(t, p)
	commit(t, j, 1, 5)
	before := sectors(t, p)
	for _, k := range []*Journal{j, opened(t, p)} {
		is(t, "Commit", k.Commit(puts(2, 1)), api.ErrFull)
		is(t, "Clear", k.Clear(), api.ErrFull)
		is(t, "Commit of nothing", k.Commit(nil), api.OK)
		is(t, "Commit of a block that is none", k.Commit(puts(3, 1)), api.ErrRange)
		stands(t, "refused", p, before...)
		has(t, "refused", k, 1, 0, 5, 0)
	}

	p = newPlate(t, 9, madeHead(most, 4, 0, 7), madeHead(most-1, 4, 0, 7))
	j = opened(t, p)
	commit(t, j, 0, 1, 1, 2)
	before = sectors(t, p)
	is(t, "Clear", j.Clear(), api.ErrFull)
	is(t, "Commit, which is cleared ahead", j.Commit(puts(2, 1)), api.ErrFull)
	stands(t, "refused", p, before...)
	has(t, "refused", j, 0, 1, 2, 0)
}

// P7.5

func TestWhatIsHandedInIsNotKept(t *testing.T) {
	p, j := fresh(t, 11, 6)
	room := bytes.Repeat([]byte{5}, 60)
	list := []Put{{2, room[:48]}, {0, full(6)}, {1, full(7)}}
	is(t, "Commit", j.Commit(list[:2]), api.OK)
	if !bytes.Equal(room, bytes.Repeat([]byte{5}, 60)) || !bytes.Equal(list[1].Data, full(6)) || list[0].Block != 2 || list[1].Block != 0 || list[2].Block != 1 {
		t.Errorf("changed: %x, %v", room, list)
	}
	clear(room)
	clear(list[1].Data)
	list[0] = Put{1, full(9)}
	has(t, "changed behind it", j, 2, 6, 0, 5)
	has(t, "opened", opened(t, p), 2, 6, 0, 5)
	is(t, "Clear", j.Clear(), api.OK)
	has(t, "cleared", j, 5, 6, 0, 5)
}

func TestAnswersAreNewMemory(t *testing.T) {
	_, j := fresh(t, 11, 6)
	commit(t, j, 0, 1)
	is(t, "Clear", j.Clear(), api.OK)
	commit(t, j, 2, 3)
	for at := range 3 {
		one, _ := j.Read(at)
		other, _ := j.Read(at)
		for i := range one[:cap(one)] {
			one[:cap(one)][i] = 99
		}
		if !bytes.Equal(other, full([]byte{1, 0, 3}[at])) {
			t.Errorf("Read(%d): another answer is %x", at, other)
		}
	}
	has(t, "behind a change of what was answered", j, 3, 1, 0, 3)
	kept, _ := j.Read(2)
	commit(t, j, 2, 4)
	if !bytes.Equal(kept, full(3)) {
		t.Errorf("an answer, behind what was done later: %x", kept)
	}
	is(t, "Clear", j.Clear(), api.OK)
	has(t, "cleared", j, 5, 1, 0, 4)
}

func TestJournalsShareNothing(t *testing.T) {
	_, one := fresh(t, 11, 6)
	p, other := fresh(t, 11, 6)
	commit(t, one, 0, 1)
	has(t, "the other one", other, 5, 0, 0, 0)
	is(t, "Fail", p.Fail(0, nil), api.OK)
	is(t, "Clear", other.Clear(), api.ErrDead)
	has(t, "the one", one, 3, 1, 0, 0)
}

// P7.6

// doing is a call that a journal is played: a Commit of these puts (a block, a byte), a Clear, or an Open.
type doing struct {
	what string
	l    []int
}

// plays are what journals of 4 blocks and a log of 5 are played.
var plays = [][]doing{
	{{"Commit", []int{0, 1}}, {"Commit", []int{1, 2, 2, 3}}, {"Commit", []int{0, 4, 3, 5}}, {"Commit", []int{1, 6}}, {"Clear", nil}, {"Commit", []int{2, 7, 1, 8}}},
	{{"Commit", []int{3, 1, 2, 2, 1, 3, 0, 4}}, {"Commit", []int{0, 5, 1, 6, 2, 7, 3, 8}}, {"Commit", []int{1, 9, 3, 10, 0, 11}}},
	{{"Clear", nil}, {"Commit", []int{1, 1, 2, 2}}, {"Open", nil}, {"Clear", nil}, {"Clear", nil}, {"Commit", []int{1, 3}}, {"Open", nil}, {"Commit", []int{2, 4, 0, 5}}},
	{{"Commit", []int{2, 1, 0, 2, 3, 3}}, {"Open", nil}, {"Commit", []int{1, 4, 3, 5, 0, 6}}, {"Open", nil}, {"Commit", []int{2, 7}}, {"Commit", []int{2, 8}}, {"Commit", []int{2, 9}}},
}

// done does one.
func (d doing) done(p *plate.Plate, j *Journal) (*Journal, api.Errno) {
	switch d.what {
	case "Commit":
		return j, j.Commit(puts(d.l...))
	case "Clear":
		return j, j.Clear()
	}
	return Open(p)
}

// makes is what it makes of the blocks.
func (d doing) makes(blocks [4]byte) [4]byte {
	for i := 0; i < len(d.l); i += 2 {
		blocks[d.l[i]] = byte(d.l[i+1])
	}
	return blocks
}

// blocks are those of a journal.
func blocks(t *testing.T, j *Journal) [4]byte {
	t.Helper()
	var out [4]byte
	for at := range out {
		b, e := j.Read(at)
		if e != api.OK || len(b) != BlockSize || !bytes.Equal(b, full(b[0])) {
			t.Fatalf("Read(%d): %x, %d", at, b, e)
		}
		out[at] = b[0]
	}
	return out
}

// bits is a list of bools.
func bits(n int) []bool {
	var l []bool
	for ; n > 0; n /= 2 {
		l = append(l, n%2 == 1)
	}
	return l
}

// play plays, from some blocks on, on a plate that may be to fail, and tells how far it came: the blocks, and what they may be instead.
func play(t *testing.T, p *plate.Plate, j *Journal, was [4]byte, l []doing) (now, or [4]byte, rest []doing) {
	t.Helper()
	for i, d := range l {
		k, e := d.done(p, j)
		switch {
		case e == api.ErrDead && p.Dead():
			return was, d.makes(was), l[i:]
		case e != api.OK:
			t.Fatalf("%s: %d", d.what, e)
		}
		j = k
		was = d.makes(was)
		if got := blocks(t, j); got != was {
			t.Fatalf("%s: %v, not %v", d.what, got, was)
		}
	}
	return was, was, nil
}

// comesBack opens what fell: all of what was under way is there, or nothing of it.
func comesBack(t *testing.T, p *plate.Plate, now, or [4]byte) (*Journal, [4]byte) {
	t.Helper()
	is(t, "Boot", p.Boot(), api.OK)
	j := opened(t, p)
	got := blocks(t, j)
	if got != now && got != or {
		t.Fatalf("opened: %v, neither %v nor %v", got, now, or)
	}
	return j, got
}

func TestWhereverThePowerGoes(t *testing.T) {
	for _, l := range plays {
		for n, ends := 0, false; !ends; n++ {
			for keep := range 32 {
				p, j := fresh(t, 11, 5)
				is(t, "Fail", p.Fail(n, bits(keep)), api.OK)
				now, or, rest := play(t, p, j, [4]byte{}, l)
				if ends = !p.Dead(); ends {
					break
				}
				j, got := comesBack(t, p, now, or)
				play(t, p, j, got, rest)
			}
		}
	}
}

// TestWhereverThePowerGoesAgain: it goes while what fell is opened, and goes on, too; what was not ended may stand in the way.
func TestWhereverThePowerGoesAgain(t *testing.T) {
	r := rand.New(rand.NewSource(1))
	for _, l := range plays {
		for n := range 60 {
			for range 200 {
				p, j := fresh(t, 11, 5)
				is(t, "Fail", p.Fail(n, bits(r.Intn(32))), api.OK)
				now, or, rest := play(t, p, j, [4]byte{}, l)
				for range 5 {
					if !p.Dead() {
						break
					}
					is(t, "Boot", p.Boot(), api.OK)
					is(t, "Fail", p.Fail(r.Intn(12), bits(r.Intn(32))), api.OK)
					j, e := Open(p)
					if e == api.ErrDead && p.Dead() {
						continue
					}
					is(t, "Open", e, api.OK)
					got := blocks(t, j)
					if got != now && got != or {
						t.Fatalf("opened: %v, neither %v nor %v", got, now, or)
					}
					now, or, rest = play(t, p, j, got, rest)
				}
				if p.Dead() {
					comesBack(t, p, now, or)
				}
			}
		}
	}
}

// TestWhatIsUnderWay: what is under way begins to be there with its end.
func TestWhatIsUnderWay(t *testing.T) {
	for n := range 5 {
		for _, stay := range []bool{false, true} {
			p, j := fresh(t, 20, 6)
			commit(t, j, 3, 1, 5, 2)
			commit(t, j, 1, 1)
			is(t, "Clear", j.Clear(), api.OK)
			is(t, "Fail", p.Fail(n, slices.Repeat([]bool{stay}, 9)), api.OK)
			is(t, "Commit", j.Commit(puts(3, 7, 5, 8)), api.ErrDead)
			is(t, "Boot", p.Boot(), api.OK)
			if k := opened(t, p); n == 4 && stay {
				has(t, "the end stays", k, 2, 0, 1, 0, 7, 0, 8, 0, 0, 0, 0, 0, 0)
			} else {
				has(t, "the end does not", k, 5, 0, 1, 0, 1, 0, 2, 0, 0, 0, 0, 0, 0)
			}
		}
	}
}

func TestOtherJournalsFall(t *testing.T) {
	r := rand.New(rand.NewSource(2))
	for range 3000 {
		log := 2 + r.Intn(8)
		p, j := fresh(t, 2+log+4, log)
		now := [4]byte{}
		for range 20 {
			var d doing
			switch r.Intn(6) {
			case 0:
				d.what = "Clear"
			case 1:
				d.what = "Open"
			default:
				d.what = "Commit"
				for _, at := range r.Perm(4)[:r.Intn(min(5, log))] {
					d.l = append(d.l, at, r.Intn(256))
				}
			}
			if r.Intn(3) == 0 {
				is(t, "Fail", p.Fail(r.Intn(10), bits(r.Intn(64))), api.OK)
			}
			var or [4]byte
			if now, or, _ = play(t, p, j, now, []doing{d}); p.Dead() {
				j, now = comesBack(t, p, now, or)
			} else {
				is(t, "Fail below 0", p.Fail(-1, nil), api.OK)
			}
		}
	}
}

// P7.7

func TestTurnedBits(t *testing.T) {
	begun := func(n int) (*plate.Plate, *Journal) {
		p, j := fresh(t, 12, 6)
		for i := range n {
			commit(t, j, i%4, i+1, (i+1)%4, i+2)
		}
		return p, j
	}
	for n := range 7 {
		p, _ := begun(n)
		before := sectors(t, p)
		j := opened(t, p)
		first, last := binary.BigEndian.Uint16(before[0][8:]), binary.BigEndian.Uint16(before[1][8:])
		if bytes.Compare(before[0][1:6], before[1][1:6]) < 0 {
			first = last
		}
		goesOn := 6 - j.Free() - 1
		for at, b := range before {
			for bit := range 512 {
				is(t, "Turn", p.Turn(at, bit), api.OK)
				k, e := Open(p)
				switch place := (at - 2 - int(first) + 6) % 6; {
				case at < 2 || at < 8 && (place < goesOn || place == goesOn && goesOn < 6 && !bytes.Equal(b, noughts)):
					if k != nil || e != api.ErrCorrupt {
						t.Fatalf("%d: the sector %d, the bit %d: %d", n, at, bit, e)
					}
				case at >= 8:
					number := at - 8
					want := api.ErrCorrupt
					if _, ok := j.pending[number]; ok {
						want = api.OK
					}
					if e != api.OK {
						t.Fatalf("%d: the sector %d, the bit %d: Open %d", n, at, bit, e)
					}
					if _, e := k.Read(number); e != want {
						t.Fatalf("%d: the sector %d, the bit %d: Read %d, not %d", n, at, bit, e, want)
					}
					if _, e := j.Read(number); e != want {
						t.Fatalf("%d: the sector %d, the bit %d: Read of who was there already %d, not %d", n, at, bit, e, want)
					}
				}
				is(t, "Turn", p.Turn(at, bit), api.OK)
			}
		}
		stands(t, "turned back", p, before...)
		opened(t, p)
	}
}

// The chapter's examples.

func TestExamples(t *testing.T) {
	p, j := fresh(t, 20, 6)
	has(t, "formatted", j, 5, make([]byte, 12)...)
	commit(t, j, 3, 1, 5, 2)
	stands(t, "the first row", p, madeHead(1, 6, 0, 1), madeHead(2, 6, 0, 1), madeEntry(1, 3, 1), madeEntry(1, 5, 2), madeEnd(1, 2))
	has(t, "the first row", j, 2, 0, 0, 0, 1, 0, 2, 0, 0, 0, 0, 0, 0)

	is(t, "Fail", p.Fail(4, nil), api.OK)
	is(t, "the second row", j.Commit(puts(3, 7, 5, 8)), api.ErrDead)
	is(t, "Boot", p.Boot(), api.OK)
	j = opened(t, p)
	has(t, "the second row", j, 2, 0, 0, 0, 1, 0, 2, 0, 0, 0, 0, 0, 0)

	is(t, "the third row", j.Commit(puts(0, 1, 1, 1, 2, 1, 3, 1, 4, 1, 5, 1)), api.ErrFull)
	is(t, "the third row", j.Commit(puts(12, 1)), api.ErrRange)
	is(t, "the third row", j.Commit(puts(1, 1, 1, 2)), api.ErrArg)

	commit(t, j, 3, 4, 4, 5, 5, 6)
	for at, want := range map[int][]byte{0: madeHead(3, 6, 3, 2), 8 + 3: madeHome(3, 1), 8 + 5: madeHome(5, 2)} {
		if b, _ := p.Read(at); !bytes.Equal(b, want) {
			t.Errorf("the fourth row: the sector %d is %x, not %x", at, b, want)
		}
	}
	has(t, "the fourth row", j, 1, 0, 0, 0, 4, 5, 6, 0, 0, 0, 0, 0, 0)
}
