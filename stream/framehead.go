package stream

import (
	"cmp"
	"math/bits"

	"flacpair/api"
)

const sync = 0x7ffc // 111111111111100

// Codes of a frame's head that others are held against.
const (
	wrongSize  = 0
	wrongRate  = 15
	wrongDepth = 3

	leftAndSide   = 8
	sideAndRight  = 9
	middleAndSide = 10
)

// rates by their codes; 0: as the stream.
var rates = [12]int{0, 88200, 176400, 192000, 8000, 16000, 22050, 24000, 32000, 44100, 48000, 96000}

// depths by their codes; 0: as the stream.
var depths = [8]int{0, 8, 12, 0, 16, 20, 24, 32}

// frameHead is what a frame says of itself.
type frameHead struct {
	variable bool
	number   int
	size     int
	rate     int
	pairing  int // the channels' code
	depth    int
}

// readFrameHead reads a frame's head, which is one of this stream and of this place in it.
func (d *Decoder) readFrameHead() frameHead {
	check(d.in.read(15) == sync, api.ErrSync)
	head := frameHead{variable: d.in.read(1) == 1}
	size := d.in.read(4)
	check(size != wrongSize, api.ErrReserved)
	rate := d.in.read(4)
	check(rate != wrongRate, api.ErrReserved)
	head.pairing = d.in.read(4)
	check(head.pairing <= middleAndSide, api.ErrReserved)
	depth := d.in.read(3)
	check(depth != wrongDepth, api.ErrReserved)
	check(d.in.read(1) == 0, api.ErrReserved)
	head.number = d.readNumber(head.variable)
	head.size = d.readSize(size)
	head.rate = cmp.Or(d.readRate(rate), d.info.Rate)
	head.depth = cmp.Or(depths[depth], d.info.Depth)
	sum := d.crc.Add8(0, d.in.bits.Marked())
	check(d.in.read(8) == int(sum), api.ErrHead)
	check(d.isNext(head), api.ErrMatch)
	return head
}

// readNumber reads the coded number.
func (d *Decoder) readNumber(variable bool) int {
	most := 6
	if variable {
		most = 7
	}
	first := d.in.read(8)
	ones := bits.LeadingZeros8(^uint8(first))
	if ones == 0 {
		return first
	}
	check(ones >= 2 && ones <= most, api.ErrNumber)
	number := first & (0x7f >> ones)
	for range ones - 1 {
		next := d.in.read(8)
		check(next>>6 == 0b10, api.ErrNumber)
		number = number<<6 | next&0x3f
	}
	return number
}

// readSize tells the size of a code, which may have to be read.
func (d *Decoder) readSize(code int) int {
	switch {
	case code == 1:
		return 192
	case code <= 5:
		return 144 << code
	case code == 6:
		return d.in.read(8) + 1
	case code == 7:
		return d.in.read(16) + 1
	}
	return 1 << code
}

// readRate tells the rate of a code, which may have to be read; 0: as the stream.
func (d *Decoder) readRate(code int) int {
	switch code {
	case 12:
		return 1000 * d.in.read(8)
	case 13:
		return d.in.read(16)
	case 14:
		return 10 * d.in.read(16)
	}
	return rates[code]
}

// isNext tells if a head is that of this stream's next frame.
func (d *Decoder) isNext(head frameHead) bool {
	number := d.frame
	if head.variable {
		number = d.samples
	}
	place := head.number == number && (d.frame == 0 || head.variable == d.variable)
	stream := head.channels() == d.info.Channels && head.rate == d.info.Rate && head.depth == d.info.Depth
	return place && stream && head.size <= d.info.MaxBlock
}

func (h frameHead) isPair() bool { return h.pairing >= leftAndSide }

// channels tells how many there are.
func (h frameHead) channels() int {
	if h.isPair() {
		return 2
	}
	return h.pairing + 1
}

// bits tells how many a sample of channel i has as it is coded: the side has one more.
func (h frameHead) bits(i int) int {
	if h.isSide(i) {
		return h.depth + 1
	}
	return h.depth
}

func (h frameHead) isSide(i int) bool {
	switch h.pairing {
	case leftAndSide, middleAndSide:
		return i == 1
	case sideAndRight:
		return i == 0
	}
	return false
}
