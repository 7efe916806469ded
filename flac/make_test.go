package flac_test

import (
	"crypto/md5"
	"strings"

	"flacpair/api"
	"flacpair/flac"
)

// num writes the last n bits of v, digit by digit.
func num(v, n int) string {
	var o strings.Builder
	for k := n - 1; k >= 0; k-- {
		o.WriteByte('0' + byte(v>>k&1))
	}
	return o.String()
}

// nums writes each in n bits.
func nums(n int, l ...int) string {
	var o strings.Builder
	for _, v := range l {
		o.WriteString(num(v, n))
	}
	return o.String()
}

// ahead is so many noughts, and a one.
func ahead(n int) string { return strings.Repeat("0", n) + "1" }

// packed makes bytes of digits; what is left of the last byte is noughts.
func packed(digits string) string {
	out := make([]byte, (len(digits)+7)/8)
	for i := range digits {
		out[i/8] |= (digits[i] - '0') << (7 - i%8)
	}
	return string(out)
}

// coded writes a coded number in n bytes, 1 to 7.
func coded(v, n int) string {
	if n == 1 {
		return string([]byte{byte(v)})
	}
	out := make([]byte, n)
	for k := n - 1; k > 0; k-- {
		out[k] = 0x80 | byte(v&0x3f)
		v >>= 6
	}
	out[0] = byte(0xff<<(8-n)) | byte(v)
	return string(out)
}

// shortCoded writes a coded number in as few bytes as will do.
func shortCoded(v int) string {
	if v < 128 {
		return coded(v, 1)
	}
	n := 2
	for v >= 1<<(5*n+1) {
		n++
	}
	return coded(v, n)
}

// frame is a frame that is to be written, with the codes as they stand in its head.
type frame struct {
	begin                                        string // digits
	variable, size, rate, channels, depth, spare int
	number, sizeTail, rateTail                   string // bytes
	turn8                                        int    // which bits of the CRC-8 are turned
	subframes, rest                              string // digits
	turn16                                       int
}

const rightBegin = "111111111111100"

// frameOf is frame k of a stream with fixed sizes, each channel by itself.
func frameOf(k, size int, subframes ...string) frame {
	return frame{
		begin: rightBegin, number: shortCoded(k),
		size: 7, sizeTail: packed(num(size-1, 16)),
		channels: len(subframes) - 1, subframes: strings.Join(subframes, ""),
	}
}

// pairOf is frame 0, in which two channels are coded as a pair.
func pairOf(code, size int, first, second string) frame {
	f := frameOf(0, size, first, second)
	f.channels = code
	return f
}

func (f frame) head() string {
	codes := num(f.variable, 1) + nums(4, f.size, f.rate, f.channels) + num(f.depth, 3) + num(f.spare, 1)
	return packed(f.begin+codes) + f.number + f.sizeTail + f.rateTail
}

func (f frame) text() string {
	head := f.head()
	sum8, _, _, _ := flac.Sums(head, api.Slow, len(head))
	head += string([]byte{sum8 ^ byte(f.turn8)})
	text := head + packed(f.subframes+f.rest)
	_, sum16, _, _ := flac.Sums(text, api.Slow, len(text))
	return text + packed(num(int(sum16)^f.turn16, 16))
}

// headSize tells how many bytes a frame's head has, with its sum.
func (f frame) headSize() int { return len(f.head()) + 1 }

// streamOf writes a stream.
func streamOf(info api.Info, frames ...frame) string {
	var o strings.Builder
	o.WriteString(headOf(info))
	for _, f := range frames {
		o.WriteString(f.text())
	}
	return o.String()
}

// mono: what a stream of one channel says of itself.
func mono(depth int) api.Info {
	info := usual()
	info.Channels, info.Depth = 1, depth
	return info
}

// subframe writes the head of a subframe.
func subframe(kind, wasted int) string {
	if wasted == 0 {
		return "0" + num(kind, 6) + "0"
	}
	return "0" + num(kind, 6) + "1" + ahead(wasted-1)
}

func constant(v, bits int) string { return subframe(0, 0) + num(v, bits) }

func verbatim(bits int, l ...int) string { return subframe(1, 0) + nums(bits, l...) }

// rice writes residuals by a parameter.
func rice(parameter int, l ...int) string {
	var o strings.Builder
	for _, v := range l {
		u := 2 * v
		if v < 0 {
			u = -2*v - 1
		}
		o.WriteString(ahead(u>>parameter) + num(u, parameter))
	}
	return o.String()
}

// part writes a part of residuals by a parameter.
func part(method, parameter int, l ...int) string {
	return num(parameter, 4+method) + rice(parameter, l...)
}

// escaped writes a part of residuals in a width of their own.
func escaped(method, width int, l ...int) string {
	return num(-1, 4+method) + num(width, 5) + nums(width, l...)
}

// residuals writes the head of residuals in 2^p parts, and these.
func residuals(method, p int, parts ...string) string {
	return num(method, 2) + num(p, 4) + strings.Join(parts, "")
}

// rule is by what samples are foretold.
type rule struct {
	factors   []int
	precision int // bits of a factor; 0: the rule is fixed
	shift     int
}

func fixedRule(order int) rule {
	switch order {
	case 1:
		return rule{factors: []int{1}}
	case 2:
		return rule{factors: []int{2, -1}}
	case 3:
		return rule{factors: []int{3, -3, 1}}
	case 4:
		return rule{factors: []int{4, -6, 4, -1}}
	}
	return rule{}
}

func (r rule) order() int { return len(r.factors) }

func (r rule) kind() int {
	if r.precision == 0 {
		return 8 + r.order()
	}
	return 31 + r.order()
}

// says writes what a rule of its own says of itself.
func (r rule) says() string {
	if r.precision == 0 {
		return ""
	}
	return num(r.precision-1, 4) + num(r.shift, 5) + nums(r.precision, r.factors...)
}

// left tells what the rule leaves of samples.
func (r rule) left(samples []int) []int {
	var out []int
	for i := r.order(); i < len(samples); i++ {
		sum := 0
		for k, c := range r.factors {
			sum += c * samples[i-1-k]
		}
		out = append(out, samples[i]-sum>>r.shift)
	}
	return out
}

// foretold writes a subframe by a rule; behind it stand residuals. The samples are those that are coded, without wasted bits.
func (r rule) foretold(bits, wasted int, samples []int, residuals string) string {
	return subframe(r.kind(), wasted) + nums(bits-wasted, samples[:r.order()]...) + r.says() + residuals
}

// inOnePart writes samples by a rule and a parameter.
func (r rule) inOnePart(bits, method, parameter int, samples []int) string {
	return r.foretold(bits, 0, samples, residuals(method, 0, part(method, parameter, r.left(samples)...)))
}

// sumOf tells the MD5 of blocks.
func sumOf(depth int, blocks ...api.Block) string {
	var out []byte
	for _, b := range blocks {
		for i := range b.Samples[0] {
			for _, c := range b.Samples {
				for k := 0; 8*k < depth; k++ {
					out = append(out, byte(c[i]>>(8*k)))
				}
			}
		}
	}
	sum := md5.Sum(out)
	return string(sum[:])
}
