// Package sums: the sums by which streams are checked: CRC-8, CRC-16 and MD5 (P3).
package sums

import "flacpair/api"

// The polynomials, without their highest power.
const (
	poly8  = 0x07
	poly16 = 0x8005
)

// CRC takes bytes into sums, which begin at 0. Each kind has its own way to the same sums.
type CRC interface {
	Add8(sum uint8, b []byte) uint8
	Add16(sum uint16, b []byte) uint16
}

// NewCRC makes the way of a kind: Fast goes by tables, any other bit by bit.
func NewCRC(kind int) CRC {
	if kind == api.Fast {
		return newTables()
	}
	return bitwise{}
}

type bitwise struct{}

func (bitwise) Add8(sum uint8, b []byte) uint8 {
	for _, x := range b {
		sum = divide8(sum ^ x)
	}
	return sum
}

func (bitwise) Add16(sum uint16, b []byte) uint16 {
	for _, x := range b {
		sum = divide16(sum ^ uint16(x)<<8)
	}
	return sum
}

// tables hold, for each byte, what dividing it bit by bit leaves. They are made anew for each holder: 256 entries are too many to stand written out.
type tables struct {
	of8  [256]uint8
	of16 [256]uint16
}

func newTables() *tables {
	t := &tables{}
	for i := range 256 {
		t.of8[i] = divide8(uint8(i))
		t.of16[i] = divide16(uint16(i) << 8)
	}
	return t
}

func (t *tables) Add8(sum uint8, b []byte) uint8 {
	for _, x := range b {
		sum = t.of8[sum^x]
	}
	return sum
}

func (t *tables) Add16(sum uint16, b []byte) uint16 {
	for _, x := range b {
		sum = sum<<8 ^ t.of16[uint8(sum>>8)^x]
	}
	return sum
}

func divide8(sum uint8) uint8 {
	for range 8 {
		high := sum >> 7
		sum = sum<<1 ^ high*poly8
	}
	return sum
}

func divide16(sum uint16) uint16 {
	for range 8 {
		high := sum >> 15
		sum = sum<<1 ^ high*poly16
	}
	return sum
}
