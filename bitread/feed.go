// Package bitread: two readers of bits out of any source (P4 and P5).
package bitread

import "flacpair/api"

// feed holds what has come of a source. Bytes are counted from the source's first one on.
type feed struct {
	src  api.Source
	have []byte
	gone int   // bytes that were let go, ahead of have
	stop error // what stands behind have; once there is such an error, the source is not asked again
}

// came tells how many bytes have come in all.
func (f *feed) came() int { return f.gone + len(f.have) }

// byteAt tells byte i, which has come and was not let go.
func (f *feed) byteAt(i int) byte { return f.have[i-f.gone] }

// more asks for bytes until some come; else it tells what stands in the way. Bytes ahead of byte keep are let go.
func (f *feed) more(keep int) error {
	for empty := 0; f.stop == nil; empty++ {
		text, err := f.src.Read(api.MaxRead)
		if err != nil {
			f.stop = err
		} else if text != "" {
			f.letGo(keep)
			f.have = append(f.have, text...)
			return nil
		} else if empty == api.MaxEmpty {
			f.stop = api.ErrStuck
		}
	}
	return f.stop
}

// letGo moves the rest to the front, so that the room does not grow with the stream.
func (f *feed) letGo(keep int) {
	n := keep - f.gone
	if n == 0 {
		return
	}
	rest := copy(f.have, f.have[n:])
	f.have = f.have[:rest]
	f.gone = keep
}
