package stream

import (
	"flacpair/api"
	"flacpair/bitread"
	"flacpair/kernel"
	"flacpair/sums"
)

// fastWays read as many at once as have come, and have kernels reckon of whole lists.
func fastWays(src api.Source) ways {
	reader := bitread.NewFast(src)
	in := input{reader}
	return ways{
		in:  in,
		crc: sums.NewCRC(api.Fast),
		numbers: func(out []int, bits int) {
			inTurn(out,
				func(out []int) int { return reader.Numbers(out, bits) },
				func() int { return in.signed(bits) })
		},
		residuals: func(out []int, parameter int) {
			inTurn(out,
				func(out []int) int { return reader.Codes(out, parameter, tooGreat) },
				func() int { return in.residual(parameter) })
		},
		foretell: func(rule []int, shift int, samples []int, bits int) {
			check(kernel.Foretell(rule, shift, samples, bits), api.ErrRange)
		},
		unpair: func(pairing int, first, second []int, depth int) {
			check(pairKernel(pairing)(first, second, depth), api.ErrRange)
		},
	}
}

// inTurn fills a list: as much as goes at once, then one by itself, which asks for more or throws what stands in the way, and so on.
func inTurn(out []int, many func(out []int) int, one func() int) {
	for len(out) > 0 {
		n := many(out)
		if n < len(out) {
			out[n] = one()
			n++
		}
		out = out[n:]
	}
}

func pairKernel(pairing int) func(first, second []int, depth int) bool {
	switch pairing {
	case leftAndSide:
		return kernel.LeftAndSide
	case sideAndRight:
		return kernel.SideAndRight
	}
	return kernel.MiddleAndSide
}
