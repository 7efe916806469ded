package bitread

import (
	"math/bits"

	"flacpair/api"
)

// Fast reads out of a reservoir of bits.
type Fast struct {
	common
	pool uint64 // the next bits, the first of them highest, and noughts behind them
	held int    // how many bits pool holds; they end where a byte ends
}

// NewFast makes a quick reader. It asks the source for nothing yet.
func NewFast(src api.Source) *Fast {
	return &Fast{common: common{feed: feed{src: src}}}
}

// Read reads n bits, 0 to 64, as a number.
func (f *Fast) Read(n int) (uint64, error) {
	if n < 0 || n > f.held {
		if err := f.ask(n); err != nil {
			return 0, err
		}
	}
	if n <= 32 {
		return f.take(n), nil
	}
	high := f.take(n - 32)
	return high<<32 | f.take(32), nil
}

// Unary reads the noughts ahead of the next one, and that one, and tells how many noughts there were.
func (f *Fast) Unary() (int, error) {
	n := bits.LeadingZeros64(f.pool)
	if n < f.held {
		f.drop(n + 1)
		return n, nil
	}
	return f.longUnary()
}

// Align reads the rest of the byte, and tells if it was noughts.
func (f *Fast) Align() (bool, error) { return f.take(f.rest()) == 0, nil }

// Skip passes over n bits. If they do not all come, it has passed over some of them.
func (f *Fast) Skip(n int) error {
	err := f.pass(n)
	f.move(f.at)
	return err
}

// longUnary looks for the one behind the pool, which holds none. Nothing is read until it is found.
func (f *Fast) longUnary() (int, error) {
	i := f.next()
	for {
		if err := f.want(8*(i+1) - f.at); err != nil {
			return 0, err
		}
		if x := f.byteAt(i); x != 0 {
			one := 8*i + bits.LeadingZeros8(x)
			n := one - f.at
			f.move(one + 1)
			return n, nil
		}
		i++
	}
}

// take reads n bits, at most 32, that have come.
func (f *Fast) take(n int) uint64 {
	if n > f.held {
		f.pool, f.held = f.filled(f.pool, f.held, f.next())
	}
	v := f.pool >> (64 - n)
	f.drop(n)
	return v
}

// drop reads n bits that the pool holds.
func (f *Fast) drop(n int) {
	f.pool <<= n
	f.held -= n
	f.at += n
}

// next tells the first byte that is not in the pool.
func (f *Fast) next() int { return (f.at + f.held) / 8 }

// move goes on at a bit of what has come, or right behind it, with a pool filled anew.
func (f *Fast) move(bit int) {
	f.pool, f.held = f.filled(0, 0, bit/8)
	f.at = bit / 8 * 8
	f.drop(bit % 8)
}

// filled tells a pool with whole bytes added, from byte i on, as far as they have come and have room.
func (f *Fast) filled(pool uint64, held, i int) (uint64, int) {
	behind := f.have[i-f.gone:]
	if len(behind) >= 8 {
		room := (64 - held) &^ 7
		word := wordOf([8]byte(behind)) >> (64 - room) << (64 - room)
		return pool | word>>held, held + room
	}
	for _, x := range behind {
		if held > 56 {
			break
		}
		pool |= uint64(x) << (56 - held)
		held += 8
	}
	return pool, held
}

// wordOf makes a number of eight bytes, the first of them highest.
func wordOf(b [8]byte) uint64 {
	return uint64(b[0])<<56 | uint64(b[1])<<48 | uint64(b[2])<<40 | uint64(b[3])<<32 |
		uint64(b[4])<<24 | uint64(b[5])<<16 | uint64(b[6])<<8 | uint64(b[7])
}
