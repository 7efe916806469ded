package bitread

import "flacpair/api"

// Slow reads bit by bit.
type Slow struct {
	common
}

// NewSlow makes a slow reader. It asks the source for nothing yet.
func NewSlow(src api.Source) *Slow {
	return &Slow{common{feed: feed{src: src}}}
}

// Read reads n bits, 0 to 64, as a number.
func (s *Slow) Read(n int) (uint64, error) {
	if err := s.ask(n); err != nil {
		return 0, err
	}
	return s.take(n), nil
}

// Unary reads the noughts ahead of the next one, and that one, and tells how many noughts there were.
func (s *Slow) Unary() (int, error) {
	for n := 0; ; n++ {
		if err := s.want(n + 1); err != nil {
			return 0, err
		}
		if s.bit(s.at+n) == 1 {
			s.at += n + 1
			return n, nil
		}
	}
}

// Align reads the rest of the byte, and tells if it was noughts.
func (s *Slow) Align() (bool, error) { return s.take(s.rest()) == 0, nil }

// Skip passes over n bits. If they do not all come, it has passed over some of them.
func (s *Slow) Skip(n int) error { return s.pass(n) }

// take reads n bits that have come.
func (s *Slow) take(n int) uint64 {
	v := uint64(0)
	for range n {
		v = v<<1 | uint64(s.bit(s.at))
		s.at++
	}
	return v
}

func (s *Slow) bit(i int) byte { return s.byteAt(i/8) >> (7 - i%8) & 1 }
