package flac_test

import (
	"fmt"
	"reflect"
	"slices"
	"testing"

	"flacpair/api"
	"flacpair/flac"
)

// sum tells what a rule makes of the samples ahead of place i.
func (r rule) sum(samples []int, i int) int {
	sum := 0
	for k, c := range r.factors {
		sum += c * samples[i-1-k]
	}
	return sum
}

// farthest are first samples of which a rule makes the greatest sum, or the least.
func (r rule) farthest(bits int, great bool) []int {
	l := make([]int, r.order())
	for k, c := range r.factors {
		l[r.order()-1-k] = least(bits)
		if c > 0 == great {
			l[r.order()-1-k] = greatest(bits)
		}
	}
	return l
}

// isCoded tells if there is a code for a residual.
func isCoded(residual int) bool { return residual > -1<<31 && residual < 1<<31 }

// edgeSums sees what is told of a sum that is as far from 0 as the rule makes it: with a residual by which the sample fits; with those by which it just doesn't; and with the one by which it would fit, if the sum had gone around at 32 bits.
func edgeSums(t *testing.T, r rule, bits int, great bool) (went, failed int) {
	t.Helper()
	l := r.farthest(bits, great)
	foretold := r.sum(l, len(l)) >> r.shift
	around := int(int32(r.sum(l, len(l)))) >> r.shift
	near := min(max(foretold, least(bits)), greatest(bits))
	for _, residual := range []int{near - foretold, near - foretold + 1, near - foretold - 1, least(bits) - foretold - 1, greatest(bits) - foretold + 1, near - around} {
		if !isCoded(residual) {
			continue
		}
		sample := foretold + residual
		text := streamOf(mono(bits), frameOf(0, len(l)+1, r.foretold(bits, 0, l, residuals(1, 0, part(1, 29, residual)))))
		what := fmt.Sprintf("rule %v >> %d of %v, residual %d", r.factors, r.shift, l, residual)
		for _, kind := range kinds {
			if doesFit(sample, bits) {
				went++
				wantBlock(t, what, open(t, text, kind), api.Block{Samples: [][]int{append(slices.Clone(l), sample)}})
			} else {
				failed++
				wantEnd(t, what, open(t, text, kind), api.ErrRange, 0, 42)
			}
		}
	}
	return went, failed
}

// P8: coefficients, shifts and samples at which a sum just stays within 32 bits, and at which it just leaves them, of either sign.
func TestP8SumsAround32Bits(t *testing.T) {
	went, failed := 0, 0
	for bits := 4; bits <= 32; bits++ {
		var rules []rule
		for order := 1; order <= 4; order++ {
			rules = append(rules, fixedRule(order))
		}
		most := 1 << (32 - bits) // as far from 0 as coefficients may be in all, for 32 bits to do
		for _, order := range []int{1, 2, 4, 5, 31, 32} {
			for _, total := range []int{most - 1, most, most + 1, 2 * most, 2*most + 1} {
				for _, signs := range [][]int{{1}, {-1}, {1, -1}} {
					rules = append(rules, spread(total, order, signs)...)
				}
			}
		}
		for _, r := range rules {
			for _, great := range []bool{false, true} {
				a, b := edgeSums(t, r, bits, great)
				went += a
				failed += b
			}
		}
		if t.Failed() {
			return
		}
	}
	if went < 10000 || failed < 10000 {
		t.Errorf("%d went well, %d failed", went, failed)
	}
}

// spread makes rules of coefficients that come to a total without their signs, which take turns; or none, if they would be too great.
func spread(total, order int, signs []int) []rule {
	var factors []int
	for k := range order {
		c := total / (order - k)
		total -= c
		if c >= 1<<14 {
			return nil
		}
		factors = append(factors, c*signs[k%len(signs)])
	}
	var l []rule
	for _, shift := range []int{0, 1, 15} {
		l = append(l, rule{factors: factors, precision: 15, shift: shift})
	}
	return l
}

// P8: the least coefficient of all, which has no counterpart, in rules of each order.
func TestP8LeastCoefficient(t *testing.T) {
	for order := 1; order <= 32; order++ {
		for bits := 4; bits <= 32; bits++ {
			r := rule{factors: same(-1<<14, order), precision: 15, shift: 15}
			edgeSums(t, r, bits, true)
			edgeSums(t, r, bits, false)
		}
	}
}

// P5: numbers of 0 to 64 bits at each place of the reservoir, in pieces of each small size.
func TestP5Reservoir(t *testing.T) {
	d := dice(3)
	text := d.text(40)
	for _, kind := range kinds {
		for ahead := range 130 {
			for n := range 65 {
				s := texts()
				for i := 0; i < len(text); i += 1 + n%11 {
					s.empties(i % 9).then(text[i:min(len(text), i+1+n%11)])
				}
				compare(t, newBits(t, s, kind), &model{digits: digits(text), behind: api.ErrEnd}, []int{ahead / 2, ahead - ahead/2, n, n, unary, n, align, 64, n, unary})
			}
		}
	}
}

// longStream makes frames of many samples, in most ways in which they may be coded.
func (d *dice) longStream() (string, api.Info) {
	info := usual()
	info.Channels = 1 + d.below(2)
	info.Depth = 4 + d.below(29)
	var l []frame
	for k := range 1 + d.below(2) {
		l = append(l, d.frame(info, 0, k, 500+d.below(3597), 0))
	}
	if d.below(3) == 0 {
		l[len(l)-1] = d.spoilt(l[len(l)-1])
	}
	return streamOf(info, l...), info
}

// P1, P4, P7 to P12: long frames, some of them spoilt or cut off, in great and in small pieces.
func TestP7LongStreams(t *testing.T) {
	d := dice(13)
	ends := map[error]int{}
	for range 150 {
		text, info := d.longStream()
		switch d.below(4) {
		case 0:
			text = turned(text, 42+d.below(len(text)-42), byte(d.below(256)))
		case 1:
			text = text[:42+d.below(len(text)-42)]
		}
		m, wrong := streamModel(text, 42, info, api.EOF, api.ErrEnd)
		ends[wrong]++
		for _, kind := range kinds {
			agrees(t, "in one piece", open(t, text, kind), m, wrong)
			dec, err := flac.Open(d.source(text, api.EOF), kind)
			if err != nil {
				t.Fatalf("kind %d: Open: %v", kind, err)
			}
			agrees(t, "in odd pieces", dec, m, wrong)
		}
		if t.Failed() {
			t.Fatalf("text %x", text)
		}
	}
	for _, err := range []error{api.EOF, api.ErrEnd, api.ErrRange, api.ErrFrame} {
		if ends[err] < 3 {
			t.Errorf("%v was seen %d times only", err, ends[err])
		}
	}
}

// P2: long lists of the quick ways may be written into, too, without changing what comes later.
func TestP2LongBlocksAreFresh(t *testing.T) {
	d := dice(14)
	info := pairInfo(16)
	var l []frame
	for k := range 6 {
		l = append(l, d.frame(info, 0, k, 1000, 0))
	}
	text := streamOf(info, l...)
	m, _ := streamModel(text, 42, info, api.EOF, api.ErrEnd)
	for _, kind := range kinds {
		dec := open(t, text, kind)
		var kept []api.Block
		for _, want := range m.blocks {
			b, err := dec.Next()
			if err != nil || !reflect.DeepEqual(b, want) {
				t.Fatalf("kind %d: frame %d is another: %v", kind, len(kept), err)
			}
			spoil(b)
			kept = append(kept, b)
		}
		for k, b := range kept {
			if !isSpoilt(b) {
				t.Errorf("kind %d: frame %d was changed later", kind, k)
			}
		}
	}
}
