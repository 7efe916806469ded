package flac_test

import (
	"reflect"
	"strings"
	"testing"

	"flacpair/api"
	"flacpair/flac"
)

// walk makes samples that go up and down by small steps, or by great ones.
func (d *dice) walk(n, bits int) []int {
	l := make([]int, n)
	step := 1 + d.below(1<<d.below(bits))
	v := d.below(1<<(bits-1)) - d.below(1<<(bits-1))
	for i := range l {
		v += d.below(2*step+1) - step
		v = min(max(v, least(bits)), greatest(bits))
		l[i] = v
	}
	return l
}

// rule makes a rule of an order that n samples allow.
func (d *dice) rule(n int) rule {
	if d.below(2) == 0 {
		return fixedRule(d.below(min(4, n) + 1))
	}
	r := rule{precision: 2 + d.below(14), shift: d.below(16)}
	for range 1 + d.below(min(32, n)) {
		r.factors = append(r.factors, least(r.precision)+d.below(1<<r.precision)>>d.below(r.precision))
	}
	return r
}

// residuals writes what a rule leaves, in parts.
func (d *dice) residuals(left []int, order int) string {
	size := len(left) + order
	p := 0
	for size%(2<<p) == 0 && size>>(p+1) >= order && d.below(3) != 0 {
		p++
	}
	method := d.below(2)
	var parts []string
	for k := range 1 << p {
		n := size >> p
		if k == 0 {
			n -= order
		}
		parts = append(parts, d.part(method, left[:n]))
		left = left[n:]
	}
	return residuals(method, p, parts...)
}

// part writes residuals by a parameter that suits them, or nearly, or in a width.
func (d *dice) part(method int, left []int) string {
	width := 1
	for _, v := range left {
		for width < 62 && !doesFit(v, width) {
			width++
		}
	}
	if width < 32 && d.below(4) == 0 {
		return escaped(method, min(31, width+d.below(2)), left...)
	}
	parameter := max(0, min(14+16*method, width-d.below(4)))
	if width-parameter > 14 { // too many noughts to be written
		return escaped(method, d.below(32), left...)
	}
	return part(method, parameter, left...)
}

// subframe writes samples in some way.
func (d *dice) subframe(samples []int, bits int) string {
	wasted := 0
	for wasted < bits-1 && d.below(4) == 0 {
		wasted++
	}
	coded := make([]int, len(samples))
	for i := range samples {
		coded[i] = samples[i] >> wasted
	}
	switch d.below(8) {
	case 0:
		return subframe(0, wasted) + num(coded[0], bits-wasted)
	case 1:
		return subframe(1, wasted) + nums(bits-wasted, coded...)
	}
	r := d.rule(len(samples))
	return r.foretold(bits, wasted, coded, d.residuals(r.left(coded), r.order()))
}

// frame makes frame k of a stream, of so many samples, behind others.
func (d *dice) frame(info api.Info, variable, k, size, ahead int) frame {
	code := info.Channels - 1
	if info.Channels == 2 && d.below(3) != 0 {
		code = 8 + d.below(3)
	}
	var subframes []string
	for c := range info.Channels {
		bits := info.Depth
		if code == 8 && c == 1 || code == 9 && c == 0 || code == 10 && c == 1 {
			bits++
		}
		samples := d.walk(size, bits)
		if code > 7 && d.below(30) != 0 { // small enough, so that what the pair makes of it fits
			for i := range samples {
				samples[i] >>= 2
			}
		}
		subframes = append(subframes, d.subframe(samples, bits))
	}
	f := frameOf(k, size, subframes...)
	f.channels, f.variable = code, variable
	if variable == 1 {
		f.number = shortCoded(ahead)
	}
	if size <= 256 && d.below(2) == 0 {
		f.size, f.sizeTail = 6, packed(num(size-1, 8))
	}
	if d.below(2) == 0 {
		f.rate, f.rateTail = 13, packed(num(info.Rate, 16))
	}
	return f
}

// spoilt turns something in a frame, mostly so that its sums stay right.
func (d *dice) spoilt(f frame) frame {
	switch d.below(10) {
	case 0:
		f.turn8 = d.below(256)
	case 1:
		f.turn16 = d.below(65536)
	case 2:
		f.rest = strings.Repeat("0", d.below(8)) + "1"
	case 3:
		codes := []*int{&f.variable, &f.size, &f.rate, &f.channels, &f.depth, &f.spare}
		*codes[d.below(len(codes))] = d.below(2)
	case 4:
		f.number = coded(d.below(64), 1+d.below(7))
		if d.below(2) == 0 {
			f.number = turned(f.number, d.below(len(f.number)), byte(d.below(256)))
		}
	default:
		for range 1 + d.below(3) {
			i := d.below(len(f.subframes))
			f.subframes = f.subframes[:i] + string('0'+'1'-f.subframes[i]) + f.subframes[i+1:]
		}
	}
	return f
}

// stream makes a stream in which most is right.
func (d *dice) stream() (string, api.Info) {
	info := usual()
	info.MaxBlock = 16 + d.below(1+d.below(120))
	info.Rate = 1 + d.below(65535)
	info.Channels = 1 + d.below(2)
	if d.below(4) == 0 {
		info.Channels = 1 + d.below(8)
	}
	info.Depth = 4 + d.below(29)
	if d.below(3) == 0 {
		info.Depth = 4 + d.below(4)
	}
	variable, ahead := d.below(2), 0
	wrong := d.below(8)
	var l []frame
	for k := range d.below(5) {
		size := 1 + d.below(info.MaxBlock)
		f := d.frame(info, variable, k, size, ahead)
		ahead += size
		if k == wrong {
			f = d.spoilt(f)
		}
		l = append(l, f)
	}
	if d.below(2) == 0 {
		info.Total = ahead + d.below(8)/7
	}
	text := streamOf(info, l...)
	m, _ := streamModel(text, 42, info, api.EOF, api.ErrEnd)
	if d.below(2) == 0 {
		info.Sum = sumOf(info.Depth, m.blocks...)
	}
	if d.below(9) == 0 {
		info.Sum = turned(info.Sum, d.below(16), 1)
	}
	return streamOf(info, l...), info
}

// agrees sees that a decoder tells what the model tells.
func agrees(t *testing.T, what string, d api.Decoder, m modelStream, wrong error) {
	t.Helper()
	for _, want := range m.blocks {
		b, err := d.Next()
		if err != nil || !reflect.DeepEqual(b, want) {
			t.Errorf("%s: %v, %v, want %v", what, b, err, want)
			return
		}
	}
	wantEnd(t, what, d, wrong, m.frames, m.last)
}

// P1, P4, P7 to P12: many streams, spoilt, turned, ended and cut in many ways.
func TestP7AnyStream(t *testing.T) {
	d := dice(7)
	ends := map[error]int{}
	for range 6000 {
		text, info := d.stream()
		for range d.below(5) / 4 * d.below(3) {
			if len(text) > 42 {
				text = turned(text, 42+d.below(len(text)-42), byte(d.below(256)))
			}
		}
		if d.below(8) == 0 {
			text = text[:42+d.below(len(text)-41)]
		}
		given, behind := error(api.EOF), error(api.ErrEnd)
		if d.below(8) == 0 {
			given, behind = errOwn, errOwn
		}
		m, wrong := streamModel(text, 42, info, given, behind)
		ends[wrong]++
		for _, kind := range kinds {
			dec, err := flac.Open(d.source(text, given), kind)
			if err != nil {
				t.Fatalf("kind %d: Open: %v", kind, err)
			}
			agrees(t, "any stream", dec, m, wrong)
		}
		if t.Failed() {
			t.Fatalf("text %x", text)
		}
	}
	for _, err := range []error{api.EOF, errOwn, api.ErrEnd, api.ErrSync, api.ErrReserved, api.ErrNumber, api.ErrHead, api.ErrMatch, api.ErrRange, api.ErrFrame, api.ErrSum} {
		if ends[err] < 10 {
			t.Errorf("%v was seen %d times only", err, ends[err])
		}
	}
}

// P1: what comes behind the head may be anything.
func TestP1AnyText(t *testing.T) {
	d := dice(11)
	for range 3000 {
		info := usual()
		info.Depth, info.Channels = 4+d.below(29), 1+d.below(8)
		f := frameOf(0, 1+d.below(300), make([]string, info.Channels)...)
		head := f.text()[:f.headSize()]
		text := headOf(info) + head[:d.below(len(head)+1)] + d.text(d.below(1+d.below(2000)))
		m, wrong := streamModel(text, 42, info, api.EOF, api.ErrEnd)
		for _, kind := range kinds {
			dec, _ := flac.Open(d.source(text, api.EOF), kind)
			agrees(t, "any text", dec, m, wrong)
		}
		if t.Failed() {
			t.Fatalf("text %x", text)
		}
	}
}
