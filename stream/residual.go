package stream

import "flacpair/api"

// tooGreat is the least number that no residual is coded by.
const tooGreat = 1<<32 - 1

// readResiduals reads residuals into the places behind as many samples as the order.
func (d *Decoder) readResiduals(order int, samples []int) {
	method := d.in.read(2)
	check(method <= 1, api.ErrReserved)
	parts := 1 << d.in.read(4)
	size := len(samples) / parts
	check(size*parts == len(samples) && size >= order, api.ErrReserved)
	begin := order
	for end := size; end <= len(samples); end += size {
		d.readPart(method, samples[begin:end])
		begin = end
	}
}

// readPart reads a part's residuals.
func (d *Decoder) readPart(method int, residuals []int) {
	width := 4 + method
	parameter := d.in.read(width)
	if parameter == 1<<width-1 {
		d.readVerbatim(residuals, d.in.read(5))
		return
	}
	for i := range residuals {
		residuals[i] = d.readResidual(parameter)
	}
}

func (d *Decoder) readResidual(parameter int) int {
	q := d.in.unary()
	check(q <= tooGreat>>parameter, api.ErrRange)
	v := q<<parameter + d.in.read(parameter)
	check(v != tooGreat, api.ErrRange)
	if v%2 == 0 {
		return v / 2
	}
	return -(v + 1) / 2
}
