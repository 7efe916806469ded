package stream

import (
	"flacpair/api"
	"flacpair/sums"
)

// ways are what a kind of decoder does its own way. Both kinds come to the same, and throw the same.
type ways struct {
	in        input
	crc       sums.CRC
	numbers   func(out []int, bits int)                            // reads numbers with their signs
	residuals func(out []int, parameter int)                       // reads coded residuals
	foretell  func(rule []int, shift int, samples []int, bits int) // makes samples of the residuals behind the first ones
	unpair    func(pairing int, first, second []int, depth int)    // makes left and right of a pair, in place
}

// waysOf makes the ways of a kind. The source is asked for nothing yet.
func waysOf(src api.Source, kind int) ways {
	if kind == api.Fast {
		return fastWays(src)
	}
	return slowWays(src)
}
