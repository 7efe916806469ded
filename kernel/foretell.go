package kernel

// run makes samples of the residuals that stand behind as many samples as a rule's order.
type run func(samples []int)

// Foretell adds what a rule foretells to the residuals that stand behind the first samples, and tells if all samples fit so many bits, as the first ones do. Behind one that does not fit, the others mean nothing.
func Foretell(rule []int, shift int, samples []int, bits int) bool {
	runOf(rule, shift, bits)(samples)
	return fit(samples, bits)
}

func runOf(rule []int, shift, bits int) run {
	if isNarrow(reach(rule, bits)) {
		return runIn[int32](rule, shift)
	}
	return runIn[int64](rule, shift)
}

// reach tells the least and the greatest sum that a rule makes of samples of so many bits. As a sample may be 0, the sum of a part of the rule is not beyond these.
func reach(rule []int, bits int) (least, greatest int) {
	low, high := span(bits)
	for _, c := range rule {
		least += min(c*low, c*high)
		greatest += max(c*low, c*high)
	}
	return least, greatest
}

func runIn[N number](rule []int, shift int) run {
	if len(rule) <= short {
		return shortRun[N](rule, shift)
	}
	return longRun[N](rule, shift)
}

// short is the greatest order of a rule that is reckoned without a loop.
const short = 4

// shortRun keeps the last samples at hand.
func shortRun[N number](rule []int, shift int) run {
	var c [short]N
	for k := range rule {
		c[k] = N(rule[k])
	}
	return func(samples []int) {
		var p [short]N
		for k := range rule {
			p[k] = N(samples[len(rule)-1-k])
		}
		c0, c1, c2, c3 := c[0], c[1], c[2], c[3]
		p0, p1, p2, p3 := p[0], p[1], p[2], p[3]
		for i := len(rule); i < len(samples); i++ {
			sum := c3*p3 + c2*p2 + c1*p1 + c0*p0
			samples[i] += int(sum >> shift)
			p0, p1, p2, p3 = N(samples[i]), p0, p1, p2
		}
	}
}

// longRun has the rule turned around, to stand as the samples do.
func longRun[N number](rule []int, shift int) run {
	order := len(rule)
	turned := make([]N, order)
	for k, c := range rule {
		turned[order-1-k] = N(c)
	}
	return func(samples []int) {
		for i := order; i < len(samples); i++ {
			past := samples[i-order : i]
			sum := N(0)
			for k, c := range turned {
				sum += c * N(past[k])
			}
			samples[i] += int(sum >> shift)
		}
	}
}
