package stream

import "flacpair/api"

// unpair makes left and right of a pair of channels, in place.
func (h frameHead) unpair(channels [][]int) {
	if h.pairing < leftAndSide {
		return
	}
	first, second := channels[0], channels[1]
	for i := range first {
		left, right := unpaired(h.pairing, first[i], second[i])
		check(fits(left, h.depth) && fits(right, h.depth), api.ErrRange)
		first[i], second[i] = left, right
	}
}

// unpaired tells left and right of a pair of samples.
func unpaired(pairing, first, second int) (left, right int) {
	switch pairing {
	case leftAndSide:
		return first, first - second
	case sideAndRight:
		return second + first, second
	}
	m := 2*first + second&1
	return (m + second) >> 1, (m - second) >> 1
}

// fits tells if a sample fits so many bits.
func fits(sample, bits int) bool { return sample>>(bits-1) == 0 || sample>>(bits-1) == -1 }
