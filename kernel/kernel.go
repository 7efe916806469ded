// Package kernel: what the quick decoder reckons of whole lists of samples (P8 and P11). A kernel reckons in 32 bits where no sum can leave them, else in 64.
package kernel

import "math"

// number is what a kernel reckons in.
type number interface{ int32 | int64 }

// isNarrow tells if 32 bits hold all numbers from the least to the greatest.
func isNarrow(least, greatest int) bool {
	return least >= math.MinInt32 && greatest <= math.MaxInt32
}

// span tells the least and the greatest sample of so many bits.
func span(bits int) (least, greatest int) {
	return -1 << (bits - 1), 1<<(bits-1) - 1
}

// fit tells if all samples fit so many bits. They are looked at together: a sample that does not fit leaves a bit above those of the ones that do.
func fit(samples []int, bits int) bool {
	least, _ := span(bits)
	over := 0
	for _, s := range samples {
		over |= s - least
	}
	return uint(over)>>bits == 0
}
