package stream

import (
	"errors"

	"flacpair/api"
	"flacpair/bitread"
)

// tooGreat is the least number that no residual is coded by.
const tooGreat = 1<<32 - 1

// input reads bits, and throws what stands in the way. The reader's place is taken off: a decoder's errors have the place of what it decodes.
type input struct{ bits bitread.Reader }

// read reads n bits, at most 63, as a number.
func (in input) read(n int) int {
	v, err := in.bits.Read(n)
	if err != nil {
		throw(errors.Unwrap(err))
	}
	return int(v)
}

// signed reads a number of n bits with its sign, at most 63.
func (in input) signed(n int) int {
	v := in.read(n)
	if n > 0 && v>>(n-1) == 1 {
		v -= 1 << n
	}
	return v
}

// unary reads the noughts ahead of the next one, and that one, and tells how many noughts there were.
func (in input) unary() int {
	n, err := in.bits.Unary()
	if err != nil {
		throw(errors.Unwrap(err))
	}
	return n
}

// residual reads one that is coded by a parameter.
func (in input) residual(parameter int) int {
	q := in.unary()
	check(q <= tooGreat>>parameter, api.ErrRange)
	v := q<<parameter + in.read(parameter)
	check(v != tooGreat, api.ErrRange)
	if v%2 == 0 {
		return v / 2
	}
	return -(v + 1) / 2
}

// align reads the rest of the byte, and tells if it was noughts.
func (in input) align() bool {
	ok, err := in.bits.Align()
	if err != nil {
		throw(errors.Unwrap(err))
	}
	return ok
}

// text reads n bytes.
func (in input) text(n int) string {
	b := make([]byte, n)
	for i := range b {
		b[i] = byte(in.read(8))
	}
	return string(b)
}

// skip passes over n bytes.
func (in input) skip(n int) {
	if err := in.bits.Skip(8 * n); err != nil {
		throw(errors.Unwrap(err))
	}
}

// byteAt tells at which byte the reader stands.
func (in input) byteAt() int { return in.bits.At() / 8 }
