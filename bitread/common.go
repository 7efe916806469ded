package bitread

import (
	"errors"

	"flacpair/api"
)

const maxBits = 64

// common is what both readers have: what came of the source, and how many bits of it were read. It is by these two alone that errors are found, so that both kinds tell the same.
type common struct {
	feed
	at     int
	marked bool
	mark   int // a byte; if it is marked, what came from there on is kept
}

// At tells how many bits have been read.
func (c *common) At() int { return c.at }

// ask tells what stands in the way of reading n bits.
func (c *common) ask(n int) error {
	if n < 0 || n > maxBits {
		return c.fail(api.ErrArg)
	}
	return c.want(n)
}

// want sees to it that n bits more have come.
func (c *common) want(n int) error {
	for 8*c.came()-c.at < n {
		if err := c.more(c.keep()); err != nil {
			return c.fail(err)
		}
	}
	return nil
}

// keep tells the first byte that may still be asked for.
func (c *common) keep() int {
	if c.marked {
		return c.mark
	}
	return c.at / 8
}

// Mark marks the byte at which the reader stands, in place of an earlier one.
func (c *common) Mark() { c.marked, c.mark = true, c.at/8 }

// Marked tells the bytes from the mark on that have been read whole. They are the reader's own, and stay until the next call on it.
func (c *common) Marked() []byte { return c.have[c.mark-c.gone : c.at/8-c.gone] }

// Ended tells if the source has said that there is no more right here.
func (c *common) Ended() bool { return c.want(1) != nil && errors.Is(c.stop, api.EOF) }

// pass goes over n bits piece by piece, so that many need no more room than few.
func (c *common) pass(n int) error {
	for n > 0 {
		piece := min(n, 8*api.MaxRead)
		if err := c.want(piece); err != nil {
			return err
		}
		c.at += piece
		n -= piece
	}
	return nil
}

// fail tells an error with its place.
func (c *common) fail(err error) error {
	if errors.Is(err, api.EOF) {
		err = api.ErrEnd
	}
	return &api.Error{Place: api.Place{Frame: -1, At: c.at / 8}, Err: err}
}

// rest tells how many bits are left of a byte of which a part has been read. They have come, as that part did.
func (c *common) rest() int { return -c.at & 7 }
