package flac_test

import (
	"fmt"
	"strings"
	"testing"

	"flacpair/api"
)

// least and greatest tell the edges of what fits.
func least(bits int) int { return -1 << (bits - 1) }

func greatest(bits int) int { return 1<<(bits-1) - 1 }

// monoGoes sees that a subframe of the only channel is told as these samples.
func monoGoes(t *testing.T, what string, depth int, subframe string, samples ...int) {
	t.Helper()
	nextGoes(t, what, streamOf(mono(depth), frameOf(0, len(samples), subframe)), [][]int{samples})
}

// monoFails sees that a subframe of the only channel tells an error when so many of its digits are read.
func monoFails(t *testing.T, what string, depth, size int, subframe string, want error, digits int) {
	t.Helper()
	bodyFails(t, what, mono(depth), frameOf(0, size, subframe), want, digits)
}

// P8: a subframe begins with a nought.
func TestP8First(t *testing.T) {
	monoFails(t, "a one", 16, 2, "1"+constant(1, 16)[1:], api.ErrReserved, 1)
	f := frameOf(0, 2, constant(1, 16), "1"+constant(1, 16)[1:])
	bodyFails(t, "a one in the second", usual(), f, api.ErrReserved, 25)
}

// P8: kinds of which there are none, told behind the wasted bits.
func TestP8Kinds(t *testing.T) {
	for kind := range 64 {
		if kind < 2 || kind >= 8 && kind <= 12 || kind >= 32 {
			continue
		}
		what := fmt.Sprintf("kind %d", kind)
		monoFails(t, what, 16, 2, subframe(kind, 0)+num(0, 40), api.ErrReserved, 8)
		monoFails(t, what+", wasted bits", 16, 2, subframe(kind, 9)+num(0, 40), api.ErrReserved, 17)
		text := streamOf(mono(16), frameOf(0, 2, subframe(kind, 300)))
		nextFails(t, what+", no end of the wasted bits", text[:42+16], errOwn, errOwn, 0, 42)
	}
}

// P8: as many wasted bits as a sample has bits, or more, mean nothing; fewer do, of each kind.
func TestP8Wasted(t *testing.T) {
	for depth := 4; depth <= 32; depth++ {
		for wasted := 1; wasted < depth; wasted++ {
			left := depth - wasted
			a, b := least(left), greatest(left)
			what := fmt.Sprintf("%d wasted of %d", wasted, depth)
			monoGoes(t, what+", constant", depth, subframe(0, wasted)+num(a, left), a<<wasted, a<<wasted)
			monoGoes(t, what+", verbatim", depth, subframe(1, wasted)+nums(left, a, b, -1, 0), a<<wasted, b<<wasted, -1<<wasted, 0)
			rest := residuals(0, 0, part(0, 0, 0, -1))
			monoGoes(t, what+", fixed", depth, fixedRule(1).foretold(depth, wasted, []int{b}, rest), b<<wasted, b<<wasted, (b-1)<<wasted)
			own := rule{factors: []int{1}, precision: 2}
			monoGoes(t, what+", own", depth, own.foretold(depth, wasted, []int{b}, rest), b<<wasted, b<<wasted, (b-1)<<wasted)
			range2 := fixedRule(1).foretold(depth, wasted, []int{b}, residuals(0, 0, part(0, 0, 1)))
			monoFails(t, what+", too great", depth, 2, range2, api.ErrRange, len(range2))
		}
		for _, wasted := range []int{depth, depth + 1, depth + 30, 300} {
			for _, kind := range []int{0, 1, 8, 32} {
				what := fmt.Sprintf("%d wasted of %d, kind %d", wasted, depth, kind)
				monoFails(t, what, depth, 2, subframe(kind, wasted)+num(0, 40), api.ErrReserved, 8+wasted)
			}
		}
	}
}

// P8: the side has one bit more, which may be wasted, too.
func TestP8WastedSide(t *testing.T) {
	info := usual()
	info.Depth = 4
	for wasted := 1; wasted <= 6; wasted++ {
		side := subframe(0, wasted) + num(0, max(0, 5-wasted))
		for code, f := range map[int]frame{
			8:  pairOf(8, 1, constant(3, 4), side),
			9:  pairOf(9, 1, side, constant(3, 4)),
			10: pairOf(10, 1, constant(3, 4), side),
		} {
			what := fmt.Sprintf("%d wasted, channels' code %d", wasted, code)
			if wasted < 5 {
				nextGoes(t, what, streamOf(info, f), [][]int{{3}, {3}})
			} else if code == 9 {
				bodyFails(t, what, info, f, api.ErrReserved, 8+wasted)
			} else {
				bodyFails(t, what, info, f, api.ErrReserved, 12+8+wasted)
			}
		}
	}
}

// P8: constant and verbatim samples of each Depth, at the edges.
func TestP8Plain(t *testing.T) {
	for depth := 4; depth <= 32; depth++ {
		l := []int{least(depth), greatest(depth), 0, -1, 1, least(depth) + 1, greatest(depth) - 1}
		monoGoes(t, "verbatim", depth, verbatim(depth, l...), l...)
		for _, v := range l {
			monoGoes(t, "constant", depth, constant(v, depth), same(v, 9)...)
		}
		text := streamOf(mono(depth), frameOf(0, len(l), verbatim(depth, l...)))
		nextFails(t, "verbatim, too few", text[:len(text)-3], api.EOF, api.ErrEnd, 0, 42)
	}
}

// P8: the fixed rules, of samples at the edges of each Depth.
func TestP8Fixed(t *testing.T) {
	for order := range 5 {
		r := fixedRule(order)
		for depth := 4; depth <= 32; depth++ {
			what := fmt.Sprintf("fixed, order %d, Depth %d", order, depth)
			for _, edge := range []int{least(depth), greatest(depth)} {
				if order == 0 && depth == 32 {
					edge /= 2 // a residual of 32 bits cannot be written
				}
				step := -1
				if edge < 0 {
					step = 1
				}
				l := []int{edge, edge, edge + step, edge, edge + 2*step, edge + 7*step, edge + 4*step, edge}
				parameter := max(0, depth-6)
				monoGoes(t, what, depth, r.inOnePart(depth, 1, parameter, l), l...)
				monoGoes(t, what+", the first ones alone", depth, r.inOnePart(depth, 1, parameter, l[:max(1, order)]), l[:max(1, order)]...)
			}
		}
	}
}

// P8: an order above the block's size means nothing.
func TestP8Order(t *testing.T) {
	for kind := 8; kind < 64; kind++ {
		order := kind - 8
		if kind > 12 {
			order = kind - 31
		}
		for _, size := range []int{1, order - 1} {
			if kind > 12 && kind < 32 || size < 1 || size >= order {
				continue
			}
			monoFails(t, fmt.Sprintf("kind %d of %d samples", kind, size), 16, size, subframe(kind, 0)+strings.Repeat("0", 800), api.ErrReserved, 8)
		}
	}
}

// P8: rules of their own, of each order, precision and shift.
func TestP8Own(t *testing.T) {
	d := dice(8)
	for order := 1; order <= 32; order++ {
		for precision := 1; precision <= 15; precision++ {
			r := rule{precision: precision, shift: (order + precision) % 16}
			if r.shift < precision-3 {
				r.shift = precision - 3 // so that residuals stay small enough
			}
			for range order {
				r.factors = append(r.factors, d.below(1<<precision)-1<<(precision-1))
			}
			r.factors[d.below(order)] = least(precision)
			r.factors[d.below(order)] = greatest(precision)
			depth := 4 + d.below(20)
			samples := make([]int, order+d.below(12))
			for i := range samples {
				samples[i] = least(depth) + d.below(1<<depth)
			}
			what := fmt.Sprintf("order %d, precision %d, shift %d, Depth %d", order, precision, r.shift, depth)
			text := streamOf(mono(depth), frameOf(0, len(samples), r.inOnePart(depth, 1, depth, samples)))
			for _, kind := range kinds {
				wantBlock(t, what, open(t, text, kind), api.Block{Samples: [][]int{samples}})
			}
		}
	}
}

// P8: shifts round down, and may be 0 to 15.
func TestP8Shift(t *testing.T) {
	for shift := range 16 {
		for _, first := range []int{0, 1, -1, 7, -7, 100, -100, 32767, -32768} {
			r := rule{factors: []int{1}, precision: 5, shift: shift}
			want := first >> shift
			monoGoes(t, fmt.Sprintf("%d >> %d", first, shift), 16, r.foretold(16, 0, []int{first}, residuals(0, 0, part(0, 0, 0))), first, want)
		}
	}
}

// P8: a precision of 16 and a shift below 0 mean nothing, each as soon as it is read.
func TestP8OwnReserved(t *testing.T) {
	for _, order := range []int{1, 2, 32} {
		first := subframe(31+order, 0) + strings.Repeat("0", 16*order)
		rest := strings.Repeat("0", 700)
		monoFails(t, "precision", 16, 40, first+"1111"+rest, api.ErrReserved, len(first)+4)
		for shift := -16; shift < 0; shift++ {
			monoFails(t, "shift", 16, 40, first+"0101"+num(shift, 5)+rest, api.ErrReserved, len(first)+9)
		}
	}
}

// P8: samples of 32 bits, and a side of 33, foretold by sums that need more than 32.
func TestP8Wide(t *testing.T) {
	info := usual()
	info.Depth = 32
	left := []int{greatest(32), greatest(32), greatest(32) - 1, greatest(32), greatest(32), greatest(32) - 5}
	right := []int{least(32), least(32), least(32), least(32) + 1, least(32), least(32)}
	side := make([]int, len(left))
	back := make([]int, len(left))
	for i := range side {
		side[i] = left[i] - right[i]
		back[i] = right[i] - left[i]
	}
	own := rule{factors: []int{1<<14 - 1, -1 << 14, 1<<14 - 1}, precision: 15, shift: 14}
	for _, r := range []rule{fixedRule(1), fixedRule(2), fixedRule(3), fixedRule(4), own} {
		what := fmt.Sprintf("order %d", r.order())
		f := pairOf(8, len(left), r.inOnePart(32, 1, 18, left), r.inOnePart(33, 1, 18, side))
		nextGoes(t, what, streamOf(info, f), [][]int{left, right})
		f = pairOf(8, len(left), r.inOnePart(32, 1, 18, right), r.inOnePart(33, 1, 18, back))
		nextGoes(t, what, streamOf(info, f), [][]int{right, left})
		f = pairOf(9, len(left), r.inOnePart(33, 1, 18, side), r.inOnePart(32, 1, 18, right))
		nextGoes(t, what, streamOf(info, f), [][]int{left, right})
		monoGoes(t, what, 32, r.inOnePart(32, 1, 18, left), left...)
		monoGoes(t, what, 32, r.inOnePart(32, 1, 18, right), right...)
	}
	f := pairOf(8, 2, verbatim(32, greatest(32), least(32)), verbatim(33, 1<<32-1, -1<<32+1))
	nextGoes(t, "verbatim", streamOf(info, f), [][]int{{greatest(32), least(32)}, {least(32), greatest(32)}})
}

// P8: a foretold sample that does not fit, told behind all residuals.
func TestP8Range(t *testing.T) {
	for depth := 4; depth <= 32; depth++ {
		for _, edge := range []int{least(depth), greatest(depth)} {
			step := 1
			if edge < 0 {
				step = -1
			}
			for _, r := range []rule{fixedRule(1), fixedRule(2), fixedRule(3), fixedRule(4), {factors: []int{2}, precision: 3, shift: 1}} {
				l := append(same(edge, r.order()), edge, edge+step, edge, edge)
				s := r.inOnePart(depth, 0, 2, l)
				what := fmt.Sprintf("rule %v, Depth %d, behind %d", r.factors, depth, edge)
				monoFails(t, what, depth, len(l), s, api.ErrRange, len(s))
			}
			if depth < 32 {
				s := fixedRule(0).inOnePart(depth, 1, depth-1, []int{edge, edge + step, 0})
				monoFails(t, fmt.Sprintf("order 0, Depth %d, behind %d", depth, edge), depth, 3, s, api.ErrRange, len(s))
			}
		}
	}
}

// P8: a sample of the side that does not fit its one bit more.
func TestP8RangeSide(t *testing.T) {
	for _, depth := range []int{4, 16, 31, 32} {
		info := usual()
		info.Depth = depth
		for _, edge := range []int{least(depth + 1), greatest(depth + 1)} {
			step := 1
			if edge < 0 {
				step = -1
			}
			side := fixedRule(1).inOnePart(depth+1, 0, 2, []int{edge, edge + step, edge})
			f := pairOf(9, 3, side, constant(0, depth))
			bodyFails(t, fmt.Sprintf("side of Depth %d, behind %d", depth, edge), info, f, api.ErrRange, len(side))
		}
	}
}

// P8: the first subframe's fault counts, though the second has one, too.
func TestP8FirstCounts(t *testing.T) {
	bad := fixedRule(1).inOnePart(16, 0, 2, []int{greatest(16), greatest(16) + 1})
	bodyFails(t, "range, then reserved", usual(), frameOf(0, 2, bad, "1"), api.ErrRange, len(bad))
	bodyFails(t, "reserved, then range", usual(), frameOf(0, 2, subframe(2, 0), bad), api.ErrReserved, 8)
}
