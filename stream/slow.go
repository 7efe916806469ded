package stream

import (
	"flacpair/api"
	"flacpair/bitread"
	"flacpair/sums"
)

// slowWays go bit by bit and sample by sample.
func slowWays(src api.Source) ways {
	in := input{bitread.NewSlow(src)}
	return ways{
		in:  in,
		crc: sums.NewCRC(api.Slow),
		numbers: func(out []int, bits int) {
			for i := range out {
				out[i] = in.signed(bits)
			}
		},
		residuals: func(out []int, parameter int) {
			for i := range out {
				out[i] = in.residual(parameter)
			}
		},
		foretell: foretell,
		unpair:   unpair,
	}
}

// foretell stops at the first sample that does not fit. As each one ahead of it does, no sum leaves 64 bits.
func foretell(rule []int, shift int, samples []int, bits int) {
	for i := len(rule); i < len(samples); i++ {
		sum := 0
		for k, c := range rule {
			sum += c * samples[i-1-k]
		}
		samples[i] += sum >> shift
		check(fits(samples[i], bits), api.ErrRange)
	}
}

func unpair(pairing int, first, second []int, depth int) {
	for i := range first {
		left, right := unpaired(pairing, first[i], second[i])
		check(fits(left, depth) && fits(right, depth), api.ErrRange)
		first[i], second[i] = left, right
	}
}

// unpaired tells left and right of a pair of samples.
func unpaired(pairing, first, second int) (left, right int) {
	switch pairing {
	case leftAndSide:
		return first, first - second
	case sideAndRight:
		return second + first, second
	}
	m := 2*first + second&1
	return (m + second) >> 1, (m - second) >> 1
}

// fits tells if a sample fits so many bits.
func fits(sample, bits int) bool { return sample>>(bits-1) == 0 || sample>>(bits-1) == -1 }
