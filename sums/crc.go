// Package sums: the sums by which streams are checked: CRC-8, CRC-16 and MD5 (P3).
package sums

import "flacpair/api"

// The polynomials, without their highest power.
const (
	poly8  = 0x07
	poly16 = 0x8005
)

// CRC takes bytes into sums, which begin at 0. Each kind has its own way to the same sums.
type CRC interface {
	Add8(sum uint8, b []byte) uint8
	Add16(sum uint16, b []byte) uint16
}

// NewCRC makes the way of a kind: Fast goes by tables, any other bit by bit.
func NewCRC(kind int) CRC {
	if kind == api.Fast {
		return newTables()
	}
	return bitwise{}
}

type bitwise struct{}

func (bitwise) Add8(sum uint8, b []byte) uint8 {
	for _, x := range b {
		sum = divide8(sum ^ x)
	}
	return sum
}

func (bitwise) Add16(sum uint16, b []byte) uint16 {
	for _, x := range b {
		sum = divide16(sum ^ uint16(x)<<8)
	}
	return sum
}

// stride is how many bytes the tables take into a CRC-16 at once.
const stride = 8

// tables hold, for each byte, what dividing it bit by bit leaves. They are made anew for each holder: so many entries are too many to stand written out.
type tables struct {
	of8  [256]uint8
	of16 [stride][256]uint16 // by how many bytes of noughts stand behind it
}

func newTables() *tables {
	t := &tables{}
	for i := range 256 {
		t.of8[i] = divide8(uint8(i))
		t.of16[0][i] = divide16(uint16(i) << 8)
	}
	for k := 1; k < stride; k++ {
		for i, sum := range t.of16[k-1] {
			t.of16[k][i] = t.next16(sum, 0)
		}
	}
	return t
}

func (t *tables) Add8(sum uint8, b []byte) uint8 {
	for _, x := range b {
		sum = t.of8[sum^x]
	}
	return sum
}

func (t *tables) Add16(sum uint16, b []byte) uint16 {
	for len(b) >= stride {
		sum = t.eight16(sum, [stride]byte(b))
		b = b[stride:]
	}
	for _, x := range b {
		sum = t.next16(sum, x)
	}
	return sum
}

// next16 takes a byte into a sum.
func (t *tables) next16(sum uint16, x byte) uint16 {
	return sum<<8 ^ t.of16[0][uint8(sum>>8)^x]
}

// eight16 takes eight bytes into a sum. The sum is laid over the first two of them; then each byte counts by itself, as with noughts behind it.
func (t *tables) eight16(sum uint16, b [stride]byte) uint16 {
	return t.of16[7][b[0]^uint8(sum>>8)] ^ t.of16[6][b[1]^uint8(sum)] ^
		t.of16[5][b[2]] ^ t.of16[4][b[3]] ^ t.of16[3][b[4]] ^
		t.of16[2][b[5]] ^ t.of16[1][b[6]] ^ t.of16[0][b[7]]
}

func divide8(sum uint8) uint8 {
	for range 8 {
		high := sum >> 7
		sum = sum<<1 ^ high*poly8
	}
	return sum
}

func divide16(sum uint16) uint16 {
	for range 8 {
		high := sum >> 15
		sum = sum<<1 ^ high*poly16
	}
	return sum
}
