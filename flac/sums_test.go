package flac_test

import (
	"crypto/md5"
	"encoding/hex"
	"math"
	"strings"
	"testing"

	"flacpair/api"
	"flacpair/flac"
)

// P3: known sums, in pieces of any size.
func TestP3Sums(t *testing.T) {
	for _, c := range []struct {
		s     string
		sum8  byte
		sum16 uint16
		md5   string
	}{
		{"", 0, 0, "d41d8cd98f00b204e9800998ecf8427e"},
		{"\x00", 0, 0, "93b885adfe0da089cdf634904fd59f71"},
		{"\x01", 0x07, 0x8005, "55a54008ad1ba589aa210d2629c1df41"},
		{"a", 0x20, 0x8145, "0cc175b9c0f1b6a831c399e269772661"},
		{"abc", 0x5f, 0xcadb, "900150983cd24fb0d6963f7d28e17f72"},
		{"123456789", 0xf4, 0xfee8, "25f9e794323b453885f5181f1b624d0b"},
		{strings.Repeat("1234567890", 8), 0x74, 0x6066, "57edf4a22be3c955ac49da2e2107b67a"},
	} {
		for _, kind := range kinds {
			for _, n := range []int{1, 2, 4, 63, 64, 65, math.MaxInt} {
				a, b, m, err := flac.Sums(c.s, kind, n)
				if a != c.sum8 || b != c.sum16 || hex.EncodeToString([]byte(m)) != c.md5 || err != nil {
					t.Errorf("%q, kind %d, pieces of %d: %x, %x, %x, %v", c.s, kind, n, a, b, m, err)
				}
			}
		}
	}
}

// P3: the MD5 at each length around the edges of its blocks.
func TestP3Lengths(t *testing.T) {
	text := strings.Repeat("\x00\xff\x80\x01z", 60)
	for length := range len(text) + 1 {
		s := text[:length]
		want := md5.Sum([]byte(s))
		slow8, slow16, _, _ := flac.Sums(s, api.Slow, 1)
		for _, kind := range kinds {
			for _, n := range []int{1, 7, 64, 1000} {
				a, b, m, err := flac.Sums(s, kind, n)
				if m != string(want[:]) || a != slow8 || b != slow16 || err != nil {
					t.Errorf("%d bytes, kind %d, pieces of %d: %x, %x, %x, %v", length, kind, n, a, b, m, err)
				}
			}
		}
	}
}

// P3 and KIND: wrong numbers.
func TestP3Wrong(t *testing.T) {
	for _, c := range []struct{ kind, n int }{
		{api.Slow, 0}, {api.Fast, 0}, {api.Slow, -1}, {api.Fast, math.MinInt},
		{2, 1}, {-1, 1}, {math.MaxInt, 1}, {math.MinInt, 1}, {2, 0},
	} {
		for _, s := range []string{"", "x"} {
			a, b, m, err := flac.Sums(s, c.kind, c.n)
			wantError(t, "Sums", err, api.ErrArg, -1, 0)
			if a != 0 || b != 0 || m != "" {
				t.Errorf("kind %d, pieces of %d: %x, %x, %x beside an error", c.kind, c.n, a, b, m)
			}
		}
	}
}
