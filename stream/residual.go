package stream

import "flacpair/api"

// readResiduals reads residuals into the places behind as many samples as the order.
func (d *Decoder) readResiduals(order int, samples []int) {
	method := d.in.read(2)
	check(method <= 1, api.ErrReserved)
	parts := 1 << d.in.read(4)
	size := len(samples) / parts
	check(size*parts == len(samples) && size >= order, api.ErrReserved)
	begin := order
	for end := size; end <= len(samples); end += size {
		d.readPart(method, samples[begin:end])
		begin = end
	}
}

// readPart reads a part's residuals.
func (d *Decoder) readPart(method int, out []int) {
	width := 4 + method
	parameter := d.in.read(width)
	if parameter == 1<<width-1 {
		d.numbers(out, d.in.read(5))
		return
	}
	d.residuals(out, parameter)
}
