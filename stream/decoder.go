// Package stream: decoders of streams, of both kinds (P6 to P12).
package stream

import (
	"flacpair/api"
	"flacpair/sums"
)

// noFrame is the frame's number in the place of an error of the head.
const noFrame = -1

// Decoder decodes a stream.
type Decoder struct {
	ways
	info     api.Info
	frame    int       // the number of the frame that is read, or noFrame
	at       int       // up to which byte all was decoded whole; while the head is read, where its part begins that is read now
	variable bool      // what the first frame says of block sizes
	samples  int       // how many of a channel stand in the frames ahead
	md5      *sums.MD5 // of these
	failed   error     // the first error of Next, without its place
}

// Open makes a decoder of a kind, which has read the stream's head.
func Open(src api.Source, kind int) (*Decoder, error) {
	d := &Decoder{ways: waysOf(src, kind), frame: noFrame, md5: sums.NewMD5()}
	if err := attempt(d.readHead); err != nil {
		return nil, d.placed(err)
	}
	d.frame = 0
	return d, nil
}

// Info tells what the stream says of itself.
func (d *Decoder) Info() api.Info { return d.info }

// At tells up to which byte all was decoded whole.
func (d *Decoder) At() int { return d.at }

// Next tells the next frame's samples. Behind its first error it tells that one again and again.
func (d *Decoder) Next() (api.Block, error) {
	var block api.Block
	if d.failed == nil {
		d.failed = attempt(func() { block = d.readFrame() })
	}
	switch d.failed {
	case nil:
		return block, nil
	case api.EOF:
		return api.Block{}, api.EOF
	}
	return api.Block{}, d.placed(d.failed)
}

// placed tells an error with its place. Each time it is a new one, as the caller may write into it.
func (d *Decoder) placed(err error) error {
	return &api.Error{Place: api.Place{Frame: d.frame, At: d.at}, Err: err}
}

// whole marks that all is decoded up to where the reader stands.
func (d *Decoder) whole() { d.at = d.in.byteAt() }
