package flac_test

import (
	"fmt"
	"strings"
	"testing"

	"flacpair/api"
)

// foretoldBy0 is a subframe without a rule: its samples are its residuals.
func foretoldBy0(residuals string) string { return subframe(8, 0) + residuals }

// P9: methods 2 and 3 mean nothing, as soon as they are read.
func TestP9Method(t *testing.T) {
	for method := 2; method < 4; method++ {
		monoFails(t, "method", 16, 4, foretoldBy0(residuals(method, 0, part(1, 3, 0, 0, 0, 0))), api.ErrReserved, 10)
	}
}

// P9: each parameter of each method.
func TestP9Parameters(t *testing.T) {
	for method := range 2 {
		for parameter := range 15 + 16*method {
			top := min(1<<31-1, 9<<parameter) // so that few noughts stand ahead
			l := []int{0, -1, 1, -2, 2, top, -top, 1 << (parameter / 2), -1 << (parameter / 2), top / 3}
			s := foretoldBy0(residuals(method, 0, part(method, parameter, l...)))
			monoGoes(t, fmt.Sprintf("method %d, parameter %d", method, parameter), 32, s, l...)
		}
	}
}

// P9: a parameter that is all ones: each width, and residuals at its edges.
func TestP9Widths(t *testing.T) {
	for method := range 2 {
		monoGoes(t, "width 0", 8, foretoldBy0(residuals(method, 0, escaped(method, 0, 0, 0, 0))), 0, 0, 0)
		for width := 1; width < 32; width++ {
			l := []int{0, -1, least(width), greatest(width), 0}
			s := foretoldBy0(residuals(method, 0, escaped(method, width, l...)))
			monoGoes(t, fmt.Sprintf("method %d, width %d", method, width), 32, s, l...)
		}
		s := foretoldBy0(residuals(method, 0, escaped(method, 5, 15, -16)))
		monoFails(t, "too wide a residual", 4, 2, s, api.ErrRange, len(s))
		text := streamOf(mono(16), frameOf(0, 9, foretoldBy0(residuals(method, 0, escaped(method, 16, same(-2, 9)...)))))
		nextFails(t, "too few", text[:len(text)-4], api.EOF, api.ErrEnd, 0, 42)
	}
}

// P9: which numbers of parts there may be.
func TestP9Parts(t *testing.T) {
	for _, size := range []int{1, 2, 3, 4, 6, 8, 12, 15, 16, 17, 192, 255, 256, 1024, 4096} {
		for order := range 5 {
			for p := range 16 {
				if size < order {
					continue
				}
				parts := 1 << p
				what := fmt.Sprintf("%d samples, order %d, %d parts", size, order, parts)
				f := frameOf(0, size, fixedRule(order).foretold(8, 0, same(3, order), residuals(0, p, strings.Repeat("0", 5*size+32))))
				if size%parts != 0 || size/parts < order {
					text := streamOf(mono(8), f)
					for _, kind := range kinds {
						wantEnd(t, what, open(t, text, kind), api.ErrReserved, 0, 42)
					}
					continue
				}
				f.subframes = fixedRule(order).foretold(8, 0, same(3, order), residuals(0, p, quietParts(size, order, parts)))
				want := same(3, size)
				if order == 0 {
					want = same(0, size)
				}
				for _, kind := range kinds {
					wantBlock(t, what, open(t, streamOf(mono(8), f), kind), api.Block{Samples: [][]int{want}})
				}
			}
		}
	}
	monoFails(t, "parts that do not go up", 8, 6, foretoldBy0(residuals(0, 2, "0000")), api.ErrReserved, 14)
	monoFails(t, "parts shorter than the order", 8, 4, fixedRule(3).foretold(8, 0, same(1, 3), residuals(0, 1, "0000")), api.ErrReserved, 38)
}

// quietParts are parts of noughts, of several parameters.
func quietParts(size, order, parts int) string {
	var o strings.Builder
	for k := range parts {
		n := size / parts
		if k == 0 {
			n -= order
		}
		o.WriteString(part(0, k%15, make([]int, n)...))
	}
	return o.String()
}

// P9: each part has a parameter of its own, and its own residuals; the first part may have none.
func TestP9EachPart(t *testing.T) {
	for method := range 2 {
		s := foretoldBy0(residuals(method, 2,
			part(method, 3, 5, -6), escaped(method, 7, -64, 63), part(method, 0, -3, 2), escaped(method, 0, 0, 0)))
		monoGoes(t, "four parts", 16, s, 5, -6, -64, 63, -3, 2, 0, 0)
		r := fixedRule(2)
		l := []int{10, 20, 33, 41, 40, 46}
		left := r.left(l)
		s = r.foretold(16, 0, l, residuals(method, 1, part(method, 2, left[0]), part(method, 4, left[1:]...)))
		monoGoes(t, "a shorter first part", 16, s, l...)
		l = []int{10, 20, 33, 41}
		s = r.foretold(16, 0, l, residuals(method, 1, part(method, 9), part(method, 4, r.left(l)...)))
		monoGoes(t, "an empty first part", 16, s, l...)
		s = r.foretold(16, 0, l, residuals(method, 1, escaped(method, 31), part(method, 4, r.left(l)...)))
		monoGoes(t, "an empty first part with a width", 16, s, l...)
		own := rule{factors: []int{3, -1, -1, 1}, precision: 3, shift: 1}
		l = []int{1, 2, 3, 4, 9, 8, 7, 6}
		s = own.foretold(16, 0, l, residuals(method, 1, part(method, 0), part(method, 2, own.left(l)...)))
		monoGoes(t, "a rule of its own", 16, s, l...)
	}
}

// P9: how great a coded number may be.
func TestP9Range(t *testing.T) {
	for method := range 2 {
		for parameter := 14; parameter < 15+16*method; parameter++ {
			begin := num(method, 2) + "0000" + num(parameter, 4+method)
			most := 1<<(32-parameter) - 1
			what := fmt.Sprintf("method %d, parameter %d", method, parameter)
			oneGoes(t, what+", 2^32 - 2", begin+ahead(most)+num(-2, parameter), 1<<31-1)
			oneGoes(t, what+", 2^32 - 3", begin+ahead(most)+num(-3, parameter), -1<<31+1)
			oneFails(t, what+", 2^32 - 1", begin+ahead(most)+num(-1, parameter), 0)
			oneFails(t, what+", 2^32", begin+ahead(most+1)+num(0, parameter), parameter)
			oneFails(t, what+", more", begin+ahead(3*most+9)+num(0, parameter), parameter)
		}
	}
}

func oneGoes(t *testing.T, what, residual string, want int) {
	t.Helper()
	text := streamOf(mono(32), frameOf(0, 1, foretoldBy0(residual)))
	for _, kind := range kinds {
		wantBlock(t, what, open(t, text, kind), api.Block{Samples: [][]int{{want}}})
	}
}

// oneFails sees that a residual is too great, though its last bits do not come.
func oneFails(t *testing.T, what, residual string, notRead int) {
	t.Helper()
	f := frameOf(0, 1, foretoldBy0(residual))
	text := streamOf(mono(32), f)
	need := 42 + f.headSize() + (8+len(residual)-notRead+7)/8
	for _, kind := range kinds {
		wantEnd(t, what, open(t, text, kind), api.ErrRange, 0, 42)
		wantEnd(t, what+", nothing behind it", open(t, text[:need], kind), api.ErrRange, 0, 42)
		wantEnd(t, what+", a byte too few", open(t, text[:need-1], kind), api.ErrEnd, 0, 42)
	}
}

// P9: if no one comes, that counts, however many noughts there are.
func TestP9NoOne(t *testing.T) {
	for method := range 2 {
		for _, parameter := range []int{0, 5, 14 + 16*method} {
			f := frameOf(0, 1, foretoldBy0(residuals(method, 0, num(parameter, 4+method))))
			text := streamOf(mono(32), f)
			noughts := text[:len(text)-2] + strings.Repeat("\x00", 2000)
			nextFails(t, "noughts", noughts, api.EOF, api.ErrEnd, 0, 42)
			nextFails(t, "noughts", noughts, errOwn, errOwn, 0, 42)
		}
	}
}

// P9: what stands in the way of each of the residuals' bytes.
func TestP9TooFew(t *testing.T) {
	l := []int{9, -9, 30, 4, 5, 6, 1, 1}
	f := frameOf(0, 8, foretoldBy0(residuals(1, 1, part(1, 2, l[:4]...), escaped(1, 11, l[4:]...))))
	text := streamOf(mono(16), f)
	for n := 42 + f.headSize(); n < len(text); n++ {
		nextFails(t, fmt.Sprintf("%d bytes", n), text[:n], api.EOF, api.ErrEnd, 0, 42)
	}
	nextGoes(t, "all of them", text, [][]int{l})
}
