package stream

import (
	"errors"

	"flacpair/bitread"
)

// input reads bits, and throws what stands in the way. The reader's place is taken off: a decoder's errors have the place of what it decodes.
type input struct{ bits bitread.Reader }

// read reads n bits, at most 63, as a number.
func (in input) read(n int) int {
	v, err := in.bits.Read(n)
	if err != nil {
		throw(errors.Unwrap(err))
	}
	return int(v)
}

// text reads n bytes.
func (in input) text(n int) string {
	b := make([]byte, n)
	for i := range b {
		b[i] = byte(in.read(8))
	}
	return string(b)
}

// skip passes over n bytes.
func (in input) skip(n int) {
	if err := in.bits.Skip(8 * n); err != nil {
		throw(errors.Unwrap(err))
	}
}

// byteAt tells at which byte the reader stands.
func (in input) byteAt() int { return in.bits.At() / 8 }
