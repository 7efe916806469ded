// Package stream: decoders of streams, of both kinds (P6).
package stream

import (
	"errors"

	"flacpair/api"
	"flacpair/bitread"
)

// noFrame is the frame's number in the place of an error of the head.
const noFrame = -1

var errFrames = errors.New("frames are not decoded yet")

// Decoder decodes a stream.
type Decoder struct {
	in    input
	info  api.Info
	frame int // the number of the frame that is read, or noFrame
	at    int // up to which byte all was decoded whole; while the head is read, where its part begins that is read now
}

// Open makes a decoder of a kind, which has read the stream's head.
func Open(src api.Source, kind int) (*Decoder, error) {
	d := &Decoder{in: input{bitread.New(src, kind)}, frame: noFrame}
	if err := attempt(d.readHead); err != nil {
		return nil, d.placed(err)
	}
	d.frame = 0
	return d, nil
}

// Info tells what the stream says of itself.
func (d *Decoder) Info() api.Info { return d.info }

// At tells up to which byte all was decoded whole.
func (d *Decoder) At() int { return d.at }

// Next will tell the next frame. Frames are not decoded yet, and it says so.
func (d *Decoder) Next() (api.Block, error) { return api.Block{}, d.placed(errFrames) }

// placed tells an error with its place.
func (d *Decoder) placed(err error) error {
	return &api.Error{Place: api.Place{Frame: d.frame, At: d.at}, Err: err}
}

// whole marks that all is decoded up to where the reader stands.
func (d *Decoder) whole() { d.at = d.in.byteAt() }
