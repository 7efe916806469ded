package bitread

import "flacpair/api"

// Reader is a reader of bits that can also pass over many, see if there are any, and tell once more the bytes that it has read.
type Reader interface {
	api.Bits
	Skip(n int) error
	Ended() bool
	Mark()
	Marked() []byte
}

// New makes a reader of a kind: Fast has a reservoir, any other goes bit by bit. It asks the source for nothing yet.
func New(src api.Source, kind int) Reader {
	if kind == api.Fast {
		return NewFast(src)
	}
	return NewSlow(src)
}
