package stream

import "flacpair/api"

// readFrame reads the next frame, or throws what the stream's end tells.
func (d *Decoder) readFrame() api.Block {
	if d.in.bits.Ended() {
		throw(d.end())
	}
	d.in.bits.Mark()
	head := d.readFrameHead()
	channels := make([][]int, d.info.Channels)
	for i := range channels {
		channels[i] = d.readSubframe(head.size, head.bits(i))
	}
	d.readFrameEnd()
	if head.isPair() {
		d.unpair(head.pairing, channels[0], channels[1], head.depth)
	}
	block := api.Block{First: d.samples, Samples: channels}
	d.count(head, channels)
	return block
}

// readFrameEnd reads what stands behind the subframes.
func (d *Decoder) readFrameEnd() {
	check(d.in.align(), api.ErrReserved)
	sum := d.crc.Add16(0, d.in.bits.Marked())
	check(d.in.read(16) == int(sum), api.ErrFrame)
}

// count takes a frame that will be told into what is kept of the frames.
func (d *Decoder) count(head frameHead, channels [][]int) {
	if d.isSumTold() {
		d.md5.Add(interleaved(channels, d.info.Depth))
	}
	d.variable = head.variable
	d.samples += head.size
	d.frame++
	d.whole()
}

// interleaved writes samples as the MD5 takes them.
func interleaved(channels [][]int, depth int) []byte {
	width := (depth + 7) / 8
	out := make([]byte, 0, len(channels)*len(channels[0])*width)
	for i := range channels[0] {
		for _, samples := range channels {
			for k := range width {
				out = append(out, byte(samples[i]>>(8*k)))
			}
		}
	}
	return out
}

// end tells what the stream's end is: EOF, if the frames were what the stream said of itself.
func (d *Decoder) end() error {
	if d.info.Total != 0 && d.info.Total != d.samples {
		return api.ErrMatch
	}
	if d.isSumTold() && d.info.Sum != d.md5.Sum() {
		return api.ErrSum
	}
	return api.EOF
}

func (d *Decoder) isSumTold() bool {
	var notTold [sumLength]byte
	return d.info.Sum != string(notTold[:])
}
