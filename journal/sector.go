package journal

import (
	"bastide/api"
	"bastide/sum"
)

// Kinds of sectors. The first one is left out: a blank sector has it.
const (
	_ = iota
	kindHead
	kindEntry
	kindEnd
	kindHome
)

// Where what a sector has begins.
const (
	atKind   = 0
	atTurn   = 1
	atNumber = 6
	atData   = 8
	atSum    = atData + BlockSize
)

// Where what a head's data have begins.
const (
	atPlace = 0
	atFirst = 2
	atRest  = 7
)

// lastTurn is the greatest turn that its five bytes can tell.
const lastTurn = 1<<40 - 1

type block [BlockSize]byte

// sector is what a sector that is not blank has, but for its sum.
type sector struct {
	kind         byte
	turn, number int
	data         block
}

func (s sector) bytes() []byte {
	b := make([]byte, api.SectorSize)
	b[atKind] = s.kind
	write(b[atTurn:atNumber], uint64(s.turn))
	write(b[atNumber:atData], uint64(s.number))
	copy(b[atData:atSum], s.data[:])
	write(b[atSum:], sum.Of(b[:atSum]))
	return b
}

// parse is what the bytes of a sector say; false, if their sum is not right.
func parse(b []byte) (sector, bool) {
	s := sector{
		kind:   b[atKind],
		turn:   int(read(b[atTurn:atNumber])),
		number: int(read(b[atNumber:atData])),
		data:   block(b[atData:atSum]),
	}
	return s, read(b[atSum:]) == sum.Of(b[:atSum])
}

func blank(b []byte) bool {
	return [api.SectorSize]byte(b) == [api.SectorSize]byte{}
}

// write fills bytes with a number, the highest byte first.
func write(b []byte, n uint64) {
	for i := range b {
		b[len(b)-1-i] = byte(n)
		n >>= 8
	}
}

// read is the number that write wrote.
func read(b []byte) uint64 {
	n := uint64(0)
	for _, c := range b {
		n = n<<8 | uint64(c)
	}
	return n
}

// head tells where the log begins, and with which turn.
type head struct {
	turn, log    int
	place, first int
}

func (h head) sector() sector {
	s := sector{kind: kindHead, turn: h.turn, number: h.log}
	write(s.data[atPlace:atFirst], uint64(h.place))
	write(s.data[atFirst:atRest], uint64(h.first))
	return s
}

// at is the head's sector. The two take turns, so that the one ahead is there until the next one is.
func (h head) at() int {
	if h.turn%2 == 1 {
		return 0
	}
	return 1
}

// asHead is the head that a sector is; false, if it is none on a plate of so many sectors.
func asHead(s sector, sectors int) (head, bool) {
	h := head{
		turn:  s.turn,
		log:   s.number,
		place: int(read(s.data[atPlace:atFirst])),
		first: int(read(s.data[atFirst:atRest])),
	}
	// What the head does not tell of the sector (the kind, the noughts behind) is told by writing it anew.
	ok := h.sector() == s && mayBeLog(h.log, sectors) && h.place < h.log && h.first >= 1 && h.turn >= 1
	return h, ok
}

// mayBeLog tells whether a plate of so many sectors may have such a log: one entry and its end fit into it, and it leaves one home.
func mayBeLog(log, sectors int) bool {
	return log >= 2 && log <= sectors-heads-1
}
