package stream

import "flacpair/api"

// Kinds of subframes; behind the first of a row, an order more each.
const (
	constant  = 0
	verbatim  = 1
	fixed     = 8 // order 0
	lastFixed = 12
	own       = 32 // order 1
)

const wrongPrecision = 15

// readSubframe reads a channel's samples of so many bits.
func (d *Decoder) readSubframe(size, bits int) []int {
	check(d.in.read(1) == 0, api.ErrReserved)
	kind := d.in.read(6)
	wasted := d.readWasted()
	check(wasted < bits, api.ErrReserved)
	samples := make([]int, size)
	d.readSamples(kind, samples, bits-wasted)
	if wasted > 0 {
		for i := range samples {
			samples[i] <<= wasted
		}
	}
	return samples
}

// readWasted tells how many bits are wasted.
func (d *Decoder) readWasted() int {
	if d.in.read(1) == 0 {
		return 0
	}
	return d.in.unary() + 1
}

func (d *Decoder) readSamples(kind int, samples []int, bits int) {
	switch {
	case kind == constant:
		d.readConstant(samples, bits)
	case kind == verbatim:
		d.numbers(samples, bits)
	case kind >= fixed && kind <= lastFixed:
		d.readFixed(kind-fixed, samples, bits)
	case kind >= own:
		d.readOwn(kind-own+1, samples, bits)
	default:
		throw(api.ErrReserved)
	}
}

func (d *Decoder) readConstant(samples []int, bits int) {
	v := d.in.signed(bits)
	for i := range samples {
		samples[i] = v
	}
}

// readFixed reads samples that are foretold by a fixed rule.
func (d *Decoder) readFixed(order int, samples []int, bits int) {
	d.readFirstSamples(order, samples, bits)
	d.readResiduals(order, samples)
	d.foretell(fixedRule(order), 0, samples, bits)
}

// readOwn reads samples that are foretold by a rule of the subframe's own.
func (d *Decoder) readOwn(order int, samples []int, bits int) {
	d.readFirstSamples(order, samples, bits)
	precision := d.in.read(4)
	check(precision != wrongPrecision, api.ErrReserved)
	shift := d.in.signed(5)
	check(shift >= 0, api.ErrReserved)
	rule := make([]int, order)
	d.numbers(rule, precision+1)
	d.readResiduals(order, samples)
	d.foretell(rule, shift, samples, bits)
}

// readFirstSamples reads the samples that nothing foretells.
func (d *Decoder) readFirstSamples(order int, samples []int, bits int) {
	check(order <= len(samples), api.ErrReserved)
	d.numbers(samples[:order], bits)
}

func fixedRule(order int) []int {
	switch order {
	case 1:
		return []int{1}
	case 2:
		return []int{2, -1}
	case 3:
		return []int{3, -3, 1}
	case 4:
		return []int{4, -6, 4, -1}
	}
	return nil
}
