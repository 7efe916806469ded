package sums

import (
	"bytes"
	"crypto/md5"
	"testing"

	"flacpair/api"
)

// mixed makes bytes in which every value turns up.
func mixed(n int) []byte {
	b := make([]byte, n)
	x := uint32(1)
	for i := range b {
		x = x*1664525 + 1013904223
		b[i] = byte(x >> 24)
	}
	return b
}

// remainder divides b, with width noughts behind it, by the polynomial, as on paper.
func remainder(b []byte, poly uint64, width int) uint64 {
	var digits []uint64
	for _, x := range b {
		for k := 7; k >= 0; k-- {
			digits = append(digits, uint64(x>>k)&1)
		}
	}
	digits = append(digits, make([]uint64, width)...)
	for i := 0; i+width < len(digits); i++ {
		if digits[i] == 1 {
			for k := 0; k <= width; k++ {
				digits[i+k] ^= poly >> (width - k) & 1
			}
		}
	}
	r := uint64(0)
	for _, d := range digits[len(digits)-width:] {
		r = r<<1 | d
	}
	return r
}

func TestCRCIsARemainder(t *testing.T) {
	for kind := api.Slow; kind <= api.Fast; kind++ {
		crc := NewCRC(kind)
		for n := range 300 {
			b := mixed(n)
			if got, want := crc.Add8(0, b), remainder(b, 0x107, 8); uint64(got) != want {
				t.Errorf("kind %d, %d bytes: CRC-8 %x, want %x", kind, n, got, want)
			}
			if got, want := crc.Add16(0, b), remainder(b, 0x18005, 16); uint64(got) != want {
				t.Errorf("kind %d, %d bytes: CRC-16 %x, want %x", kind, n, got, want)
			}
		}
	}
}

func TestCRCGoesOn(t *testing.T) {
	b := mixed(100)
	for kind := api.Slow; kind <= api.Fast; kind++ {
		crc := NewCRC(kind)
		for k := range b {
			if crc.Add8(crc.Add8(0, b[:k]), b[k:]) != crc.Add8(0, b) {
				t.Errorf("kind %d: CRC-8 in two pieces, the first of %d bytes, is another", kind, k)
			}
			if crc.Add16(crc.Add16(0, b[:k]), b[k:]) != crc.Add16(0, b) {
				t.Errorf("kind %d: CRC-16 in two pieces, the first of %d bytes, is another", kind, k)
			}
		}
	}
}

func TestMD5OfEachLength(t *testing.T) {
	for n := range 300 {
		b := mixed(n)
		m := NewMD5()
		m.Add(b)
		if want := md5.Sum(b); m.Sum() != string(want[:]) {
			t.Errorf("%d bytes: %x, want %x", n, m.Sum(), want)
		}
	}
}

func TestMD5InPieces(t *testing.T) {
	b := mixed(1000)
	want := md5.Sum(b)
	for n := 1; n <= 200; n++ {
		m := NewMD5()
		for at := 0; at < len(b); at += n {
			m.Add(b[at:min(at+n, len(b))])
			m.Add(nil)
		}
		if m.Sum() != string(want[:]) {
			t.Errorf("in pieces of %d: %x, want %x", n, m.Sum(), want)
		}
	}
}

func TestMD5SumEndsNothing(t *testing.T) {
	b := mixed(130)
	m := NewMD5()
	for i := range b {
		if want := md5.Sum(b[:i]); m.Sum() != string(want[:]) {
			t.Errorf("after %d bytes: %x, want %x", i, m.Sum(), want)
		}
		m.Add(b[i : i+1])
	}
}

func TestArgumentsStay(t *testing.T) {
	b := mixed(200)
	NewCRC(api.Slow).Add8(1, b)
	NewCRC(api.Fast).Add16(1, b)
	NewMD5().Add(b)
	if !bytes.Equal(b, mixed(200)) {
		t.Error("bytes that were handed in were changed")
	}
}
