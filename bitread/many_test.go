package bitread

import (
	"slices"
	"strings"
	"testing"

	"flacpair/api"
)

// noise makes bytes with short and long rows of noughts among them.
func noise(n int) string {
	b := make([]byte, n)
	x := uint32(7)
	for i := range b {
		x = x*1664525 + 1013904223
		b[i] = byte(x>>24) >> (x >> 8 % 9) // often small, at times nought
	}
	return string(b)
}

// oneNumber reads a number with its sign, bit by bit.
func oneNumber(s *Slow, n int) (int, bool) {
	v, err := s.Read(n)
	if err != nil {
		return 0, false
	}
	if n > 0 && v>>(n-1) == 1 {
		return int(v) - 1<<n, true
	}
	return int(v), true
}

// oneCode reads a code, bit by bit; if it does not come whole, nothing is read.
func oneCode(s *Slow, n int, limit uint64) (int, bool) {
	at := s.at
	q, err := s.Unary()
	if err != nil {
		return 0, false
	}
	r, err := s.Read(n)
	v := uint64(q)<<n + r
	if err != nil || v >= limit {
		s.at = at
		return 0, false
	}
	if v%2 == 0 {
		return int(v / 2), true
	}
	return -int((v + 1) / 2), true
}

// seeMany holds what a quick reader reads at once against the same, one by one; what it leaves is read by itself.
func seeMany(t *testing.T, what, text string, piece, ahead int, many func(f *Fast, out []int) int, one func(s *Slow) (int, bool)) {
	t.Helper()
	fast, slow := NewFast(&once{text, piece, api.EOF}), NewSlow(&once{text, piece, api.EOF})
	fast.Read(ahead)
	slow.Read(ahead)
	for turn := range 400 {
		out := slices.Repeat([]int{77}, turn%23)
		came := fast.came()
		n := many(fast, out)
		if fast.came() != came {
			t.Fatalf("%s: the source was asked", what)
		}
		for i, v := range out {
			if i >= n {
				if v != 77 {
					t.Fatalf("%s: place %d of %d was written to", what, i, n)
				}
				continue
			}
			if want, ok := one(slow); !ok || v != want {
				t.Fatalf("%s: turn %d, number %d: %d, want %d", what, turn, i, v, want)
			}
		}
		if fast.At() != slow.At() {
			t.Fatalf("%s: at %d, want %d", what, fast.At(), slow.At())
		}
		a, err := fast.Read(turn % 65)
		b, wrong := slow.Read(turn % 65)
		if a != b || (err == nil) != (wrong == nil) || fast.At() != slow.At() {
			t.Fatalf("%s: turn %d: then %x at %d, want %x at %d", what, turn, a, fast.At(), b, slow.At())
		}
	}
}

func TestNumbers(t *testing.T) {
	text := noise(4000)
	for n := range 58 {
		for _, piece := range []int{1, 7, 8, 9, 64, 512} {
			for ahead := range 9 {
				seeMany(t, "numbers", text, piece, ahead,
					func(f *Fast, out []int) int { return f.Numbers(out, n) },
					func(s *Slow) (int, bool) { return oneNumber(s, n) })
			}
		}
	}
}

func TestCodes(t *testing.T) {
	text := noise(4000)
	for n := range 32 {
		for _, piece := range []int{1, 7, 8, 9, 64, 512} {
			for _, limit := range []uint64{1<<32 - 1, 1 << 40, 5, 0} {
				seeMany(t, "codes", text, piece, n%8,
					func(f *Fast, out []int) int { return f.Codes(out, n, limit) },
					func(s *Slow) (int, bool) { return oneCode(s, n, limit) })
			}
		}
	}
}

// All that have come whole are read, and no more.
func TestManyGoAsFarAsTheyCan(t *testing.T) {
	for n := 1; n < 58; n++ {
		for bytes := range 40 {
			f := NewFast(&once{strings.Repeat("\xff", bytes), bytes, api.EOF})
			f.want(1)
			if got, want := f.Numbers(make([]int, 1000), n), 8*bytes/n; got != want {
				t.Errorf("%d numbers of %d bits of %d bytes, want %d", got, n, bytes, want)
			}
		}
	}
	for n := range 32 {
		for bytes := range 40 {
			f := NewFast(&once{strings.Repeat("\xff", bytes), bytes, api.EOF})
			f.want(1)
			if got, want := f.Codes(make([]int, 1000), n, 1<<40), 8*bytes/(n+1); got != want {
				t.Errorf("%d codes of %d bits of %d bytes, want %d", got, n, bytes, want)
			}
		}
	}
}

// Codes stops ahead of the limit, and not sooner.
func TestCodesLimit(t *testing.T) {
	for limit := range 9 {
		f := NewFast(&once{"\x80\x00\xaa\x55\xff\xff\xff\xff\xff\xff", 10, api.EOF}) // with 1 bit: 0, then 28
		f.want(1)
		out := make([]int, 2)
		n := f.Codes(out, 1, uint64(26+limit))
		if limit <= 2 && n != 1 || limit > 2 && n != 2 {
			t.Errorf("limit %d: %d codes: %v", 26+limit, n, out)
		}
	}
}
