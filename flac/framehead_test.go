package flac_test

import (
	"fmt"
	"strings"
	"testing"

	"flacpair/api"
)

// P7 to P12: the document's examples.
func TestP7Example(t *testing.T) {
	text := unhex(t, firstExample)
	nextGoes(t, "example", text, [][]int{{25588}, {10416}})
	nextFails(t, "last byte turned", turned(text, 56, 0x9b), api.EOF, api.ErrFrame, 0, 42)
	nextFails(t, "last byte away", text[:56], api.EOF, api.ErrEnd, 0, 42)
	nextFails(t, "MD5 turned", turned(text, 26, 0x3f), api.EOF, api.ErrSum, 1, 57)
}

// quiet is frame k of a usual stream: one sample of two channels.
func quiet(k int) frame { return frameOf(k, 1, constant(k, 16), constant(-k, 16)) }

// P7: a frame begins with 15 bits, which are looked at when all of them are read.
func TestP7Sync(t *testing.T) {
	for bit := range 15 {
		f := quiet(0)
		f.begin = rightBegin[:bit] + string('0'+'1'-rightBegin[bit]) + rightBegin[bit+1:]
		frameFails(t, fmt.Sprintf("bit %d turned", bit), usual(), f, api.ErrSync, 15)
	}
	nextFails(t, "noughts", headOf(usual())+"\x00\x00", api.EOF, api.ErrSync, 0, 42)
	nextFails(t, "a nought byte", headOf(usual())+"\x00", api.EOF, api.ErrEnd, 0, 42)
	nextFails(t, "behind a frame", streamOf(usual(), quiet(0))+"\x00\x00", api.EOF, api.ErrSync, 1, 42+len(quiet(0).text()))
}

// P7: codes that mean nothing, each as soon as it is read.
func TestP7Reserved(t *testing.T) {
	for _, c := range []struct {
		what   string
		change func(*frame)
		digits int
	}{
		{"size 0", func(f *frame) { f.size = 0 }, 20},
		{"rate 15", func(f *frame) { f.rate = 15 }, 24},
		{"channels 11", func(f *frame) { f.channels = 11 }, 28},
		{"channels 12", func(f *frame) { f.channels = 12 }, 28},
		{"channels 13", func(f *frame) { f.channels = 13 }, 28},
		{"channels 14", func(f *frame) { f.channels = 14 }, 28},
		{"channels 15", func(f *frame) { f.channels = 15 }, 28},
		{"Depth 3", func(f *frame) { f.depth = 3 }, 31},
		{"a one behind Depth", func(f *frame) { f.spare = 1 }, 32},
		{"size 0, the number wrong, too", func(f *frame) { f.size, f.number = 0, "\xff" }, 20},
		{"Depth 3, the sum wrong, too", func(f *frame) { f.depth, f.turn8 = 3, 1 }, 31},
	} {
		for variable := range 2 {
			f := quiet(0)
			f.variable = variable
			c.change(&f)
			frameFails(t, c.what, usual(), f, api.ErrReserved, c.digits)
		}
	}
}

// P7: coded numbers of 1 to 7 bytes; whether fewer would do is not asked.
func TestP7NumberOfBytes(t *testing.T) {
	for variable := range 2 {
		for n := 1; n <= 7; n++ {
			f := quiet(0)
			f.variable, f.number = variable, coded(0, n)
			what := fmt.Sprintf("nought in %d bytes, variable %d", n, variable)
			if n == 7 && variable == 0 {
				frameFails(t, what, usual(), f, api.ErrNumber, 40)
				continue
			}
			nextGoes(t, what, streamOf(usual(), f), [][]int{{0}, {0}})
		}
	}
}

// P7: each bit of a number counts.
func TestP7NumberBits(t *testing.T) {
	for variable := range 2 {
		for n := 1; n <= 6+variable; n++ {
			size := 5*n + 1
			if n == 1 {
				size = 7
			}
			for bit := range size {
				f := quiet(0)
				f.variable, f.number = variable, coded(1<<bit, n)
				frameFails(t, fmt.Sprintf("bit %d of %d bytes, variable %d", bit, n, variable), usual(), f, api.ErrMatch, 8*f.headSize())
			}
		}
	}
}

// P7: first bytes that begin no number.
func TestP7NumberFirst(t *testing.T) {
	for variable := range 2 {
		for b := 0x80; b < 0x100; b++ {
			if b >= 0xc0 && b < 0xfe || b == 0xfe && variable == 1 {
				continue
			}
			f := quiet(0)
			f.variable, f.number = variable, string([]byte{byte(b)})+"\x80\x80\x80\x80\x80\x80\x80"
			frameFails(t, fmt.Sprintf("first byte %x, variable %d", b, variable), usual(), f, api.ErrNumber, 40)
		}
	}
}

// P7: further bytes that do not begin as they must, each as soon as it is read.
func TestP7NumberFurther(t *testing.T) {
	for n := 2; n <= 7; n++ {
		for k := 1; k < n; k++ {
			for _, b := range []byte{0x00, 0x3f, 0x40, 0x7f, 0xc0, 0xff} {
				f := quiet(0)
				f.variable, f.number = n/7, turned(coded(0, n), k, b)
				frameFails(t, fmt.Sprintf("byte %d of %d is %x", k, n, b), usual(), f, api.ErrNumber, 8*(5+k))
			}
		}
	}
}

// P7: numbers that grow with the stream, of frames and of samples.
func TestP7NumbersGrow(t *testing.T) {
	info := mono(8)
	var fixed, variable strings.Builder
	fixed.WriteString(headOf(info))
	variable.WriteString(headOf(info))
	const frames = 2100 // the number of the last ones has 3 bytes; of samples, 5
	for k := range frames {
		f := frameOf(k, 1, constant(k, 8))
		fixed.WriteString(f.text())
		f = frameOf(k*4096, 4096, constant(k, 8))
		f.variable = 1
		variable.WriteString(f.text())
	}
	for _, kind := range kinds {
		a, b := open(t, fixed.String(), kind), open(t, variable.String(), kind)
		for k := range frames {
			v := int(int8(k))
			wantBlock(t, "fixed", a, api.Block{First: k, Samples: [][]int{{v}}})
			wantBlock(t, "variable", b, api.Block{First: 4096 * k, Samples: [][]int{same(v, 4096)}})
		}
		wantEnd(t, "fixed", a, api.EOF, 0, fixed.Len())
		wantEnd(t, "variable", b, api.EOF, 0, variable.Len())
	}
}

// P7: each code of the size.
func TestP7Sizes(t *testing.T) {
	see := func(code int, tail string, size int) {
		t.Helper()
		f := frameOf(0, 1, constant(5, 16), constant(-5, 16))
		f.size, f.sizeTail = code, tail
		what := fmt.Sprintf("size's code %d, %x", code, tail)
		if size > 4096 {
			frameFails(t, what, usual(), f, api.ErrMatch, 8*f.headSize())
			return
		}
		nextGoes(t, what, streamOf(usual(), f), [][]int{same(5, size), same(-5, size)})
		if size <= 16 {
			return
		}
		info := usual()
		info.MaxBlock = size
		nextGoes(t, what+", the greatest", streamOf(info, f), [][]int{same(5, size), same(-5, size)})
		info.MaxBlock = size - 1
		frameFails(t, what+", above the greatest", info, f, api.ErrMatch, 8*f.headSize())
	}
	for code, size := range []int{0, 192, 576, 1152, 2304, 4608, 0, 0, 256, 512, 1024, 2048, 4096, 8192, 16384, 32768} {
		if size != 0 {
			see(code, "", size)
		}
	}
	for _, n := range []int{0, 1, 14, 15, 16, 127, 128, 255} {
		see(6, packed(num(n, 8)), n+1)
	}
	for _, n := range []int{0, 1, 255, 256, 257, 4094, 4095, 4096, 32768, 65535} {
		see(7, packed(num(n, 16)), n+1)
	}
}

// P7: the tails of the size and of the rate are read in this order, and not if they do not come.
func TestP7Tails(t *testing.T) {
	for _, size := range []string{"\x00", "\x00\x00"} {
		for _, rate := range []string{"\x2c", "\xac\x44"} {
			f := quiet(0)
			f.size, f.sizeTail = 5+len(size), size
			f.rate, f.rateTail = 11+len(rate), rate
			info := usual()
			if len(rate) == 1 {
				info.Rate = 44000
			}
			text := streamOf(info, f)
			nextGoes(t, "tails", text, [][]int{{0}, {0}})
			for n := 1; n < f.headSize(); n++ {
				nextFails(t, fmt.Sprintf("%d bytes", n), text[:42+n], api.EOF, api.ErrEnd, 0, 42)
			}
		}
	}
}

// P7: each code of the rate, of a stream with this rate and with another.
func TestP7Rates(t *testing.T) {
	see := func(code int, tail string, rate int) {
		t.Helper()
		for _, of := range []int{rate - 1, rate, rate + 1, 44100, 1<<20 - 1} {
			if of < 1 || of >= 1<<20 {
				continue
			}
			f := quiet(0)
			f.rate, f.rateTail = code, tail
			info := usual()
			info.Rate = of
			what := fmt.Sprintf("rate's code %d, %x, of a stream with %d", code, tail, of)
			if rate == 0 || of == rate {
				nextGoes(t, what, streamOf(info, f), [][]int{{0}, {0}})
			} else {
				frameFails(t, what, info, f, api.ErrMatch, 8*f.headSize())
			}
		}
	}
	for code, rate := range []int{0, 88200, 176400, 192000, 8000, 16000, 22050, 24000, 32000, 44100, 48000, 96000} {
		see(code, "", rate)
	}
	for _, n := range []int{0, 1, 8, 44, 255} {
		see(12, packed(num(n, 8)), 1000*n)
	}
	for _, n := range []int{0, 1, 256, 44100, 65535} {
		see(13, packed(num(n, 16)), n)
		see(14, packed(num(n, 16)), 10*n)
	}
}

// P7: each code of the channels, of streams with 1 to 8 of them.
func TestP7Channels(t *testing.T) {
	for code := range 11 {
		channels := code + 1
		if code > 7 {
			channels = 2
		}
		for of := 1; of <= 8; of++ {
			var subframes []string
			var samples [][]int
			for c := range channels {
				v := 10 + c
				bits := 16
				if code > 7 {
					v = 0
				}
				if code == 8 && c == 1 || code == 9 && c == 0 || code == 10 && c == 1 {
					bits = 17
				}
				subframes = append(subframes, constant(v, bits))
				samples = append(samples, []int{v})
			}
			f := frameOf(0, 1, subframes...)
			f.channels = code
			info := usual()
			info.Channels = of
			what := fmt.Sprintf("channels' code %d of a stream with %d", code, of)
			if of == channels {
				nextGoes(t, what, streamOf(info, f), samples)
			} else {
				frameFails(t, what, info, f, api.ErrMatch, 8*f.headSize())
			}
		}
	}
}

// P7: each code of Depth, of streams of each Depth.
func TestP7Depths(t *testing.T) {
	for code, depth := range []int{0, 8, 12, -1, 16, 20, 24, 32} {
		if depth < 0 {
			continue
		}
		for of := 4; of <= 32; of++ {
			f := frameOf(0, 1, constant(-3, of))
			f.depth = code
			what := fmt.Sprintf("Depth's code %d of a stream with %d", code, of)
			if code == 0 || of == depth {
				nextGoes(t, what, streamOf(mono(of), f), [][]int{{-3}})
			} else {
				frameFails(t, what, mono(of), f, api.ErrMatch, 8*f.headSize())
			}
		}
	}
}

// P7: the head's sum is of all its bytes, and is looked at ahead of what does not match.
func TestP7HeadSum(t *testing.T) {
	for bit := range 8 {
		f := quiet(0)
		f.turn8 = 1 << bit
		frameFails(t, "sum turned", usual(), f, api.ErrHead, 8*f.headSize())
		f.number = coded(1, 1)
		frameFails(t, "sum turned, number wrong", usual(), f, api.ErrHead, 8*f.headSize())
	}
	f := quiet(0)
	f.variable, f.number, f.rate, f.rateTail = 1, coded(0, 7), 13, "\xac\x44"
	text := streamOf(usual(), f)
	for i := 42 + 5; i < 42+f.headSize(); i++ {
		nextFails(t, fmt.Sprintf("byte %d turned", i), turned(text, i, text[i]^1), api.EOF, api.ErrHead, 0, 42)
	}
}

// P7: the variable bit is that of the first frame.
func TestP7VariableStays(t *testing.T) {
	for variable := range 2 {
		one, two := quiet(0), quiet(1)
		one.variable, two.variable = variable, variable
		text := streamOf(usual(), one, two)
		nextGoes(t, "the same bit", text, [][]int{{0}, {0}}, [][]int{{1}, {-1}})
		two.variable = 1 - variable
		text = streamOf(usual(), one, two)
		nextFails(t, "another bit", text, api.EOF, api.ErrMatch, 1, 42+len(one.text()))
	}
}

// P7: the number is the frame's, or how many samples stood ahead of it.
func TestP7NumberMatches(t *testing.T) {
	for variable := range 2 {
		for number := range 12 {
			var l []frame
			for k := range 3 {
				f := frameOf([]int{k, 4 * k}[variable], 4, constant(k, 16), constant(0, 16))
				f.variable = variable
				l = append(l, f)
			}
			l[2].number = coded(number, 1)
			text := streamOf(usual(), l...)
			what := fmt.Sprintf("number %d, variable %d", number, variable)
			if number == []int{2, 8}[variable] {
				nextGoes(t, what, text, [][]int{same(0, 4), same(0, 4)}, [][]int{same(1, 4), same(0, 4)}, [][]int{same(2, 4), same(0, 4)})
			} else {
				nextFails(t, what, text, api.EOF, api.ErrMatch, 2, 42+2*len(l[0].text()))
			}
		}
	}
}

// P7: what does not match is told ahead of what stands behind the head.
func TestP7MatchIsFirst(t *testing.T) {
	f := quiet(1)
	f.subframes, f.turn16 = "1111111111", 1
	frameFails(t, "subframes wrong, too", usual(), f, api.ErrMatch, 8*f.headSize())
}

// P6, P7: sizes may change from frame to frame, and be below the least; First and At go on.
func TestP7Goes(t *testing.T) {
	info := usual()
	info.MinBlock = 64
	sizes := []int{3, 4096, 1, 17}
	var l []frame
	at := []int{42}
	for k, n := range sizes {
		f := frameOf(k, n, constant(k, 16), constant(k-9, 16))
		l = append(l, f)
		at = append(at, at[k]+len(f.text()))
	}
	everyWay(t, "sizes", streamOf(info, l...), api.EOF, func(what string, d api.Decoder) {
		first := 0
		for k, n := range sizes {
			if d.At() != at[k] {
				t.Errorf("%s: ahead of frame %d At is %d, want %d", what, k, d.At(), at[k])
			}
			wantBlock(t, what, d, api.Block{First: first, Samples: [][]int{same(k, n), same(k-9, n)}})
			first += n
		}
		wantEnd(t, what, d, api.EOF, 0, at[len(sizes)])
	})
}
