package sums

import "math/bits"

const blockSize = 64

// sines: the whole part of 2^32 times |sin(i + 1)| (RFC 1321, 3.4).
var sines = [64]uint32{
	0xd76aa478, 0xe8c7b756, 0x242070db, 0xc1bdceee,
	0xf57c0faf, 0x4787c62a, 0xa8304613, 0xfd469501,
	0x698098d8, 0x8b44f7af, 0xffff5bb1, 0x895cd7be,
	0x6b901122, 0xfd987193, 0xa679438e, 0x49b40821,
	0xf61e2562, 0xc040b340, 0x265e5a51, 0xe9b6c7aa,
	0xd62f105d, 0x02441453, 0xd8a1e681, 0xe7d3fbc8,
	0x21e1cde6, 0xc33707d6, 0xf4d50d87, 0x455a14ed,
	0xa9e3e905, 0xfcefa3f8, 0x676f02d9, 0x8d2a4c8a,
	0xfffa3942, 0x8771f681, 0x6d9d6122, 0xfde5380c,
	0xa4beea44, 0x4bdecfa9, 0xf6bb4b60, 0xbebfbc70,
	0x289b7ec6, 0xeaa127fa, 0xd4ef3085, 0x04881d05,
	0xd9d4d039, 0xe6db99e5, 0x1fa27cf8, 0xc4ac5665,
	0xf4292244, 0x432aff97, 0xab9423a7, 0xfc93a039,
	0x655b59c3, 0x8f0ccc92, 0xffeff47d, 0x85845dd1,
	0x6fa87e4f, 0xfe2ce6e0, 0xa3014314, 0x4e0811a1,
	0xf7537e82, 0xbd3af235, 0x2ad7d2bb, 0xeb86d391,
}

// turns: by how many bits the steps turn, four a round, which repeat.
var turns = [16]int{
	7, 12, 17, 22,
	5, 9, 14, 20,
	4, 11, 16, 23,
	6, 10, 15, 21,
}

// MD5 is a sum to which pieces of any size are added.
type MD5 struct {
	state [4]uint32
	block [blockSize]byte // its first size%blockSize bytes wait for the rest of their block
	size  uint64
}

// NewMD5 makes the sum of nothing.
func NewMD5() *MD5 {
	return &MD5{state: [4]uint32{0x67452301, 0xefcdab89, 0x98badcfe, 0x10325476}}
}

// Add adds a piece.
func (m *MD5) Add(b []byte) {
	for len(b) > 0 {
		n := copy(m.block[m.size%blockSize:], b)
		b = b[n:]
		m.size += uint64(n)
		if m.size%blockSize == 0 {
			m.mix()
		}
	}
}

// Sum tells the sum's 16 bytes. It ends a copy, so that more can be added afterwards.
func (m *MD5) Sum() string {
	end := *m
	end.pad()
	var out [16]byte
	for i, word := range end.state {
		for k := range 4 {
			out[4*i+k] = byte(word >> (8 * k))
		}
	}
	return string(out[:])
}

func (m *MD5) pad() {
	length := m.size * 8 // modulo 2^64, as the standard has it
	m.Add([]byte{0x80})
	for m.size%blockSize != blockSize-8 {
		m.Add([]byte{0})
	}
	for k := range 8 {
		m.Add([]byte{byte(length >> (8 * k))})
	}
}

func (m *MD5) words() [16]uint32 {
	var w [16]uint32
	for i, x := range m.block {
		w[i/4] |= uint32(x) << (8 * (i % 4))
	}
	return w
}

func (m *MD5) mix() {
	w := m.words()
	a, b, c, d := m.state[0], m.state[1], m.state[2], m.state[3]
	for i := range 64 {
		f, k := step(i, b, c, d)
		f += a + sines[i] + w[k]
		a, d, c = d, c, b
		b += bits.RotateLeft32(f, turns[i/16*4+i%4])
	}
	m.state[0] += a
	m.state[1] += b
	m.state[2] += c
	m.state[3] += d
}

// step tells what step i makes of three words, and which word of the block it takes.
func step(i int, b, c, d uint32) (uint32, int) {
	switch i / 16 {
	case 0:
		return b&c | ^b&d, i
	case 1:
		return b&d | c&^d, (5*i + 1) % 16
	case 2:
		return b ^ c ^ d, (3*i + 5) % 16
	}
	return c ^ (b | ^d), 7 * i % 16
}
