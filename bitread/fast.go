package bitread

import (
	"math/bits"

	"flacpair/api"
)

// Fast reads out of a reservoir of bits.
type Fast struct {
	common
	pool uint64 // the next bits, the first of them highest, and noughts behind them
	held int    // how many bits pool holds; they end where a byte ends
}

// NewFast makes a quick reader. It asks the source for nothing yet.
func NewFast(src api.Source) *Fast {
	return &Fast{common: common{feed: feed{src: src}}}
}

// Read reads n bits, 0 to 64, as a number.
func (f *Fast) Read(n int) (uint64, error) {
	if n < 0 || n > f.held {
		if err := f.ask(n); err != nil {
			return 0, err
		}
	}
	if n <= 32 {
		return f.take(n), nil
	}
	high := f.take(n - 32)
	return high<<32 | f.take(32), nil
}

// Unary reads the noughts ahead of the next one, and that one, and tells how many noughts there were.
func (f *Fast) Unary() (int, error) {
	n := bits.LeadingZeros64(f.pool)
	if n < f.held {
		f.drop(n + 1)
		return n, nil
	}
	return f.longUnary()
}

// Align reads the rest of the byte, and tells if it was noughts.
func (f *Fast) Align() (bool, error) { return f.take(f.rest()) == 0, nil }

// Skip passes over n bits. If they do not all come, it has passed over some of them.
func (f *Fast) Skip(n int) error {
	err := f.pass(n)
	f.move(f.at)
	return err
}

// longUnary looks for the one behind the pool, which holds none. Nothing is read until it is found.
func (f *Fast) longUnary() (int, error) {
	i := f.next()
	for {
		if err := f.want(8*(i+1) - f.at); err != nil {
			return 0, err
		}
		if x := f.byteAt(i); x != 0 {
			one := 8*i + bits.LeadingZeros8(x)
			n := one - f.at
			f.move(one + 1)
			return n, nil
		}
		i++
	}
}

// take reads n bits, at most 32, that have come.
func (f *Fast) take(n int) uint64 {
	if n > f.held {
		f.fill(f.next())
	}
	v := f.pool >> (64 - n)
	f.drop(n)
	return v
}

// drop reads n bits that the pool holds.
func (f *Fast) drop(n int) {
	f.pool <<= n
	f.held -= n
	f.at += n
}

// next tells the first byte that is not in the pool.
func (f *Fast) next() int { return (f.at + f.held) / 8 }

// move goes on at a bit of what has come, or right behind it, with a pool filled anew.
func (f *Fast) move(bit int) {
	f.pool, f.held = 0, 0
	f.at = bit / 8 * 8
	f.fill(bit / 8)
	f.drop(bit % 8)
}

// fill adds whole bytes, from byte i on, as far as they have come and have room.
func (f *Fast) fill(i int) {
	for ; f.held <= 56 && i < f.came(); i++ {
		f.pool |= uint64(f.byteAt(i)) << (56 - f.held)
		f.held += 8
	}
}
