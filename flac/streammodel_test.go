package flac_test

import (
	"math/bits"
	"strings"

	"flacpair/api"
	"flacpair/flac"
)

// reading reads a whole text's digits. Its first fault stays, and nothing is read behind it.
type reading struct {
	text   string
	at     int // in bits
	behind error
	bad    error
}

func (r *reading) fault(wrong bool, err error) {
	if r.bad == nil && wrong {
		r.bad = err
	}
}

func (r *reading) bit() int {
	r.fault(r.at == 8*len(r.text), r.behind)
	if r.bad != nil {
		return 0
	}
	v := int(r.text[r.at/8]) >> (7 - r.at%8) & 1
	r.at++
	return v
}

func (r *reading) num(n int) int {
	v := 0
	for range n {
		v = 2*v + r.bit()
	}
	return v
}

func (r *reading) signed(n int) int {
	if n == 0 {
		return 0
	}
	return -r.bit()<<(n-1) + r.num(n-1)
}

func (r *reading) noughts() int {
	n := 0
	for r.bit() == 0 && r.bad == nil {
		n++
	}
	return n
}

func (r *reading) coded(most int) int {
	b := r.num(8)
	if b < 128 {
		return b
	}
	n := bits.LeadingZeros8(uint8(255 - b))
	r.fault(n < 2 || n > most, api.ErrNumber)
	if r.bad != nil {
		return 0
	}
	v := b % (1 << (7 - n))
	for range n - 1 {
		b = r.num(8)
		r.fault(b/64 != 2, api.ErrNumber)
		v = 64*v + b%64
	}
	return v
}

// modelStream is what a stream's model keeps from frame to frame.
type modelStream struct {
	info                api.Info
	variable            int
	frames, first, last int // last: the byte behind the last frame
	blocks              []api.Block
}

// streamModel tells what a decoder must tell behind the head: blocks, then an error with its place.
func streamModel(text string, head int, info api.Info, given, behind error) (m modelStream, wrong error) {
	m = modelStream{info: info, last: head}
	for {
		if m.last == len(text) && given == api.EOF {
			return m, m.end()
		}
		r := &reading{text: text, at: 8 * m.last, behind: behind}
		m.frame(r)
		if r.bad != nil {
			return m, r.bad
		}
		m.last = r.at / 8
	}
}

func (m *modelStream) end() error {
	if m.info.Total != 0 && m.info.Total != m.first {
		return api.ErrMatch
	}
	if strings.Trim(m.info.Sum, "\x00") != "" && m.info.Sum != sumOf(m.info.Depth, m.blocks...) {
		return api.ErrSum
	}
	return api.EOF
}

func (m *modelStream) frame(r *reading) {
	begin := r.at / 8
	r.fault(r.num(15) != 0b111111111111100, api.ErrSync)
	variable := r.bit()
	sizeCode := r.num(4)
	r.fault(sizeCode == 0, api.ErrReserved)
	rateCode := r.num(4)
	r.fault(rateCode == 15, api.ErrReserved)
	channelsCode := r.num(4)
	r.fault(channelsCode > 10, api.ErrReserved)
	depthCode := r.num(3)
	r.fault(depthCode == 3, api.ErrReserved)
	r.fault(r.bit() == 1, api.ErrReserved)
	number := r.coded(6 + variable)
	size := []int{0, 192, 576, 1152, 2304, 4608, 0, 0, 256, 512, 1024, 2048, 4096, 8192, 16384, 32768}[sizeCode]
	if sizeCode == 6 {
		size = r.num(8) + 1
	} else if sizeCode == 7 {
		size = r.num(16) + 1
	}
	rate := []int{0, 88200, 176400, 192000, 8000, 16000, 22050, 24000, 32000, 44100, 48000, 96000, 0, 0, 0, 0}[rateCode]
	switch rateCode {
	case 12:
		rate = 1000 * r.num(8)
	case 13:
		rate = r.num(16)
	case 14:
		rate = 10 * r.num(16)
	}
	sum, _, _, _ := flac.Sums(r.text[begin:r.at/8], api.Slow, 1)
	r.fault(r.num(8) != int(sum), api.ErrHead)
	depth := []int{m.info.Depth, 8, 12, 0, 16, 20, 24, 32}[depthCode]
	channels := channelsCode + 1
	if channelsCode > 7 {
		channels = 2
	}
	r.fault(m.frames > 0 && variable != m.variable, api.ErrMatch)
	r.fault(variable == 0 && number != m.frames || variable == 1 && number != m.first, api.ErrMatch)
	r.fault(size > m.info.MaxBlock || channels != m.info.Channels || depth != m.info.Depth || rate != 0 && rate != m.info.Rate, api.ErrMatch)
	if r.bad == nil {
		m.samples(r, begin, size, channelsCode, channels)
		m.variable = variable
	}
}

func (m *modelStream) samples(r *reading, begin, size, code, channels int) {
	depth := m.info.Depth
	var out [][]int
	for c := range channels {
		d := depth
		if code == 8 && c == 1 || code == 9 && c == 0 || code == 10 && c == 1 {
			d++
		}
		out = append(out, modelSubframe(r, size, d))
	}
	for r.at%8 != 0 {
		r.fault(r.bit() == 1, api.ErrReserved)
		if r.bad != nil {
			return
		}
	}
	_, sum, _, _ := flac.Sums(r.text[begin:r.at/8], api.Slow, 1)
	r.fault(r.num(16) != int(sum), api.ErrFrame)
	if r.bad != nil {
		return
	}
	for i := 0; code > 7 && i < size; i++ {
		left, right := rightPair(code, out[0][i], out[1][i])
		r.fault(!doesFit(left, depth) || !doesFit(right, depth), api.ErrRange)
		out[0][i], out[1][i] = left, right
	}
	if r.bad == nil {
		m.blocks = append(m.blocks, api.Block{First: m.first, Samples: out})
		m.first += size
		m.frames++
	}
}

func doesFit(v, bits int) bool { return v >= least(bits) && v <= greatest(bits) }

func modelSubframe(r *reading, size, depth int) []int {
	r.fault(r.bit() == 1, api.ErrReserved)
	kind := r.num(6)
	wasted := 0
	if r.bit() == 1 {
		wasted = r.noughts() + 1
	}
	r.fault(wasted >= depth, api.ErrReserved)
	isFixed := kind >= 8 && kind <= 12
	r.fault(kind > 1 && !isFixed && kind < 32, api.ErrReserved)
	out := make([]int, size)
	if r.bad != nil {
		return out
	}
	depth -= wasted
	switch kind {
	case 0:
		out = same(r.signed(depth), size)
	case 1:
		for i := range out {
			out[i] = r.signed(depth)
		}
	default:
		order := kind - 31
		if isFixed {
			order = kind - 8
		}
		modelForetold(r, out, order, isFixed, depth)
	}
	for i := range out {
		out[i] *= 1 << wasted
	}
	return out
}

func modelForetold(r *reading, out []int, order int, isFixed bool, depth int) {
	r.fault(order > len(out), api.ErrReserved)
	if r.bad != nil {
		return
	}
	for i := range order {
		out[i] = r.signed(depth)
	}
	by := fixedRule(min(order, 4))
	if !isFixed {
		precision := r.num(4) + 1
		r.fault(precision == 16, api.ErrReserved)
		by = rule{shift: r.signed(5)}
		r.fault(by.shift < 0, api.ErrReserved)
		for range order {
			by.factors = append(by.factors, r.signed(precision))
		}
	}
	left := modelResiduals(r, len(out), order)
	for i := order; i < len(out) && r.bad == nil; i++ {
		sum := 0
		for k, c := range by.factors {
			sum += c * out[i-1-k]
		}
		for range by.shift {
			sum = half(sum)
		}
		out[i] = left[i-order] + sum
		r.fault(!doesFit(out[i], depth), api.ErrRange)
	}
}

func modelResiduals(r *reading, size, order int) []int {
	method := r.num(2)
	r.fault(method > 1, api.ErrReserved)
	parts := 1 << r.num(4)
	r.fault(size%parts != 0 || size/parts < order, api.ErrReserved)
	var out []int
	for k := 0; k < parts && r.bad == nil; k++ {
		n := size / parts
		if k == 0 {
			n -= order
		}
		parameter := r.num(4 + method)
		escape, width := parameter == 15+16*method, 0
		if escape {
			width = r.num(5)
		}
		for range n {
			if escape {
				out = append(out, r.signed(width))
			} else {
				out = append(out, modelResidual(r, parameter))
			}
		}
	}
	return out
}

func modelResidual(r *reading, parameter int) int {
	v := r.noughts() * (1 << parameter)
	r.fault(v >= 1<<32, api.ErrRange)
	v += r.num(parameter)
	r.fault(v == 1<<32-1, api.ErrRange)
	if v%2 == 0 {
		return v / 2
	}
	return -(v + 1) / 2
}
