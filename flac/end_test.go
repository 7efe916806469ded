package flac_test

import (
	"fmt"
	"reflect"
	"strings"
	"testing"

	"flacpair/api"
	"flacpair/flac"
)

// P10: the rest of the last byte is noughts; that is looked at ahead of the sum.
func TestP10Rest(t *testing.T) {
	for used := 1; used <= 8; used++ {
		samples := []int{1, 2, 3, 4, 5, 6, 7}[:used-1] // of 9 bits each, so that the last byte is used in each way
		l := append(samples, -1)
		s := verbatim(9, l...)
		monoGoes(t, "rest of noughts", 9, s, l...)
		for bit := len(s); bit%8 != 0; bit++ {
			f := frameOf(0, len(l), s)
			f.rest = strings.Repeat("0", bit-len(s)) + "1"
			bodyFails(t, fmt.Sprintf("digit %d is a one", bit), mono(9), f, api.ErrReserved, len(s)+1)
			f.turn16 = 1
			bodyFails(t, fmt.Sprintf("digit %d is a one, the sum wrong", bit), mono(9), f, api.ErrReserved, len(s)+1)
		}
	}
}

// P10: the sum is of all bytes ahead of it.
func TestP10Sum(t *testing.T) {
	l := []int{100, -100, 7, 9000}
	f := frameOf(0, 4, verbatim(16, l...))
	for bit := range 16 {
		f.turn16 = 1 << bit
		bodyFails(t, fmt.Sprintf("bit %d turned", bit), mono(16), f, api.ErrFrame, len(f.subframes)+16)
	}
	f.turn16 = 0
	text := streamOf(mono(16), f)
	for i := 42 + f.headSize() + 1; i < len(text); i++ {
		for bit := range 8 {
			nextFails(t, fmt.Sprintf("byte %d turned", i), turned(text, i, text[i]^1<<bit), api.EOF, api.ErrFrame, 0, 42)
		}
	}
	nextFails(t, "half a sum", text[:len(text)-1], api.EOF, api.ErrEnd, 0, 42)
	nextFails(t, "no sum", text[:len(text)-2], api.EOF, api.ErrEnd, 0, 42)
}

// P10: the sum of a frame that comes in many pieces, and of a later frame.
func TestP10LongFrames(t *testing.T) {
	d := dice(10)
	var l [][]int
	var frames []frame
	for k := range 3 {
		samples := make([]int, 2000+k)
		for i := range samples {
			samples[i] = d.below(1<<20) - 1<<19
		}
		l = append(l, samples)
		frames = append(frames, frameOf(k, len(samples), verbatim(20, samples...)))
	}
	nextGoes(t, "long frames", streamOf(mono(20), frames...), [][]int{l[0]}, [][]int{l[1]}, [][]int{l[2]})
	frames[2].turn16 = 0x8000
	at := 42 + len(frames[0].text()) + len(frames[1].text())
	nextFails(t, "the last one's sum", streamOf(mono(20), frames...), api.EOF, api.ErrFrame, 2, at)
}

// pairInfo: what a stream of two channels says of itself.
func pairInfo(depth int) api.Info {
	info := usual()
	info.Depth = depth
	return info
}

// rightPair tells left and right of a pair, as the document has it.
func rightPair(code, first, second int) (int, int) {
	switch code {
	case 8:
		return first, first - second
	case 9:
		return second + first, second
	}
	odd := 0
	if second%2 != 0 {
		odd = 1
	}
	m := 2*first + odd
	return half(m + second), half(m - second)
}

// half rounds down.
func half(n int) int {
	if n < 0 && n%2 != 0 {
		return (n - 1) / 2
	}
	return n / 2
}

// seePair sees what is told of a pair of samples.
func seePair(t *testing.T, code, depth, first, second int) {
	t.Helper()
	bits := []int{depth, depth + 1}
	if code == 9 {
		bits = []int{depth + 1, depth}
	}
	f := pairOf(code, 2, verbatim(bits[0], 0, first), verbatim(bits[1], 0, second))
	text := streamOf(pairInfo(depth), f)
	f.turn16 = 1
	wrong := streamOf(pairInfo(depth), f)
	left, right := rightPair(code, first, second)
	fits := min(left, right) >= least(depth) && max(left, right) <= greatest(depth)
	what := fmt.Sprintf("channels' code %d, Depth %d, %d and %d", code, depth, first, second)
	for _, kind := range kinds {
		if fits {
			wantBlock(t, what, open(t, text, kind), api.Block{Samples: [][]int{{0, left}, {0, right}}})
		} else {
			wantEnd(t, what, open(t, text, kind), api.ErrRange, 0, 42)
		}
		wantEnd(t, what+", the sum wrong", open(t, wrong, kind), api.ErrFrame, 0, 42)
	}
}

// P11: all pairs of a small Depth; a sample that does not fit is told when the sum is right.
func TestP11AllPairs(t *testing.T) {
	for small := least(4); small <= greatest(4); small++ {
		for side := least(5); side <= greatest(5); side++ {
			seePair(t, 8, 4, small, side)
			seePair(t, 9, 4, side, small)
			seePair(t, 10, 4, small, side)
		}
	}
}

// P11: pairs at the edges of each Depth.
func TestP11Edges(t *testing.T) {
	for depth := 4; depth <= 32; depth++ {
		for _, small := range []int{least(depth), least(depth) + 1, least(depth) / 2, -1, 0, 1, greatest(depth) / 2, greatest(depth)} {
			for _, side := range []int{least(depth + 1), least(depth+1) + 1, least(depth), -1, 0, 1, greatest(depth), greatest(depth + 1)} {
				seePair(t, 8, depth, small, side)
				seePair(t, 9, depth, side, small)
				seePair(t, 10, depth, small, side)
			}
		}
	}
}

// P11: what each kind of pair makes of numbers that are not those of another.
func TestP11Each(t *testing.T) {
	info := pairInfo(8)
	nextGoes(t, "left and side", streamOf(info, pairOf(8, 2, verbatim(8, 100, -100), verbatim(9, 120, -3))), [][]int{{100, -100}, {-20, -97}})
	nextGoes(t, "side and right", streamOf(info, pairOf(9, 2, verbatim(9, 120, -3), verbatim(8, -20, -97))), [][]int{{100, -100}, {-20, -97}})
	nextGoes(t, "middle and side", streamOf(info, pairOf(10, 2, verbatim(8, 40, -99), verbatim(9, 120, -3))), [][]int{{100, -100}, {-20, -97}})
	nextGoes(t, "each by itself", streamOf(info, frameOf(0, 2, verbatim(8, 100, -100), verbatim(8, -20, -97))), [][]int{{100, -100}, {-20, -97}})
}

// P12: Total told and not told.
func TestP12Total(t *testing.T) {
	frames := []frame{frameOf(0, 5, constant(1, 8)), frameOf(1, 3, constant(2, 8))}
	blocks := [][][]int{{same(1, 5)}, {same(2, 3)}}
	for n := range 3 {
		had := []int{0, 5, 8}[n]
		for _, total := range []int{0, 1, 4, 5, 6, 7, 8, 9, 1 << 35} {
			info := mono(8)
			info.Total = total
			text := streamOf(info, frames[:n]...)
			what := fmt.Sprintf("%d frames, Total %d", n, total)
			if total == 0 || total == had {
				nextGoes(t, what, text, blocks[:n]...)
			} else {
				nextFails(t, what, text, api.EOF, api.ErrMatch, n, len(text))
				nextFails(t, what+", a broken source", text, errOwn, errOwn, n, len(text))
			}
		}
	}
}

// P12: the MD5 of samples of each Depth, and of 1 to 8 channels; each of its bits counts.
func TestP12Sum(t *testing.T) {
	for depth := 4; depth <= 32; depth++ {
		info := usual()
		info.Depth, info.Channels = depth, 1+depth%8
		var blocks []api.Block
		var frames []frame
		first := 0
		for k := range 3 {
			var samples [][]int
			var subframes []string
			for c := range info.Channels {
				l := []int{least(depth) + c, greatest(depth) - c, -1 - k, 0, k * c % 8}[k:]
				samples = append(samples, l)
				subframes = append(subframes, verbatim(depth, l...))
			}
			blocks = append(blocks, api.Block{First: first, Samples: samples})
			frames = append(frames, frameOf(k, 5-k, subframes...))
			first += 5 - k
		}
		info.Sum = sumOf(depth, blocks...)
		text := streamOf(info, frames...)
		what := fmt.Sprintf("MD5, Depth %d", depth)
		nextGoes(t, what, text, blocks[0].Samples, blocks[1].Samples, blocks[2].Samples)
		bit := depth % 8
		for i := 26; i < 42; i++ {
			nextFails(t, fmt.Sprintf("%s, byte %d turned", what, i), turned(text, i, text[i]^1<<bit), api.EOF, api.ErrSum, 3, len(text))
		}
		nextFails(t, what+", a frame too few", text[:len(text)-len(frames[2].text())], api.EOF, api.ErrSum, 2, len(text)-len(frames[2].text()))
	}
}

// P12: no frames at all; the MD5 of nothing; a wrong Total is told ahead of a wrong MD5.
func TestP12Nothing(t *testing.T) {
	info := usual()
	nextGoes(t, "nothing told", headOf(info))
	info.Sum = sumOf(16)
	nextGoes(t, "the MD5 of nothing", headOf(info))
	info.Total = 1
	nextFails(t, "Total 1", headOf(info), api.EOF, api.ErrMatch, 0, 42)
	info.Sum = turned(info.Sum, 0, 0)
	nextFails(t, "Total 1, MD5 wrong", headOf(info), api.EOF, api.ErrMatch, 0, 42)
	info.Total = 0
	nextFails(t, "MD5 wrong", headOf(info), api.EOF, api.ErrSum, 0, 42)
	info.Sum = turned(strings.Repeat("\x00", 16), 15, 1)
	nextFails(t, "MD5 of one bit", headOf(info), api.EOF, api.ErrSum, 0, 42)
}

// P4, P12: what stands in the way where a frame would begin, and at each byte of one.
func TestP12EachEnd(t *testing.T) {
	var l []frame
	at := []int{42}
	for k := range 3 {
		r := fixedRule(2)
		f := frameOf(k, 6, r.inOnePart(16, 0, 3, []int{1, 5, 9, 2, 8, k}), verbatim(16, 1, 2, 3, 4, 5, k))
		l = append(l, f)
		at = append(at, at[k]+len(f.text()))
	}
	info := usual()
	text := streamOf(info, l...)
	for n := 42; n <= len(text); n++ {
		frames := 0
		for at[frames+1] <= n {
			frames++
			if frames == len(l) {
				break
			}
		}
		want := error(api.ErrEnd)
		if n == at[frames] {
			want = api.EOF
		}
		what := fmt.Sprintf("%d bytes", n)
		nextFails(t, what, text[:n], api.EOF, want, frames, at[frames])
		nextFails(t, what, text[:n], fmt.Errorf("wrapped: %w", api.EOF), want, frames, at[frames])
		nextFails(t, what, text[:n], errOwn, errOwn, frames, at[frames])
		nextFails(t, what, text[:n], api.ErrStuck, api.ErrStuck, frames, at[frames])
		for _, kind := range kinds {
			d, _ := flac.Open(texts(text[:n]).empties(9).then(text[n:]), kind)
			passes(t, what, d, frames)
			wantEnd(t, what+", then nothing", d, api.ErrStuck, frames, at[frames])
		}
	}
}

// P4: Next asks the source for 1 to 512 bytes at a time, not sooner than it wants them, and not again behind an error.
func TestP12Asks(t *testing.T) {
	text := streamOf(usual(), quiet(0), quiet(1))
	for _, kind := range kinds {
		size := len(quiet(0).text())
		s := texts(text[:42], text[42:42+size], text[42+size:]).fails(errOwn)
		d, _ := flac.Open(s, kind)
		for calls, pieces := range []int{1, 2, 3, 4, 4, 4} {
			if len(s.asked) != pieces {
				t.Errorf("kind %d: behind %d calls of Next the source was asked %d times, want %d", kind, calls, len(s.asked), pieces)
			}
			d.Next()
		}
		if s.failed != 1 {
			t.Errorf("kind %d: the source told its error %d times", kind, s.failed)
		}
		for _, n := range s.asked {
			if n < 1 || n > api.MaxRead {
				t.Errorf("kind %d: the source was asked for %d bytes", kind, n)
			}
		}
	}
}

// P7: behind a fault nothing more is read, though what comes would be right.
func TestP7FaultStays(t *testing.T) {
	bad := quiet(1)
	bad.turn8 = 1
	text := streamOf(usual(), quiet(0), bad, quiet(1), quiet(2))
	at := 42 + len(quiet(0).text())
	for _, kind := range kinds {
		s := texts(text[:at], text[at:at+6], text[at+6:at+8], text[at+8:])
		d, _ := flac.Open(s, kind)
		passes(t, "ahead of it", d, 1)
		wantEnd(t, "a fault", d, api.ErrHead, 1, at)
		if len(s.asked) != 3 {
			t.Errorf("kind %d: the source was asked %d times, want 3", kind, len(s.asked))
		}
	}
}

// P2: a list that came out may be written into, and its spare room, without changing what comes later.
func TestP2BlocksAreFresh(t *testing.T) {
	var frames []frame
	var blocks []api.Block
	for k := range 4 {
		l := []int{k, -k, 2 * k, 100 - k}
		frames = append(frames, frameOf(k, 4, verbatim(8, l...), constant(k, 8)))
		blocks = append(blocks, api.Block{First: 4 * k, Samples: [][]int{l, same(k, 4)}})
	}
	info := pairInfo(8)
	info.Sum = sumOf(8, blocks...)
	text := streamOf(info, frames...)
	for _, kind := range kinds {
		d := open(t, text, kind)
		var kept []api.Block
		for k := range blocks {
			b, err := d.Next()
			if err != nil || !reflect.DeepEqual(b, blocks[k]) {
				t.Errorf("kind %d: frame %d: %v, %v", kind, k, b, err)
			}
			kept = append(kept, b)
			spoil(b)
			for i, other := range kept[:k] {
				if !isSpoilt(other) {
					t.Errorf("kind %d: frame %d has changed frame %d", kind, k, i)
				}
			}
		}
		wantEnd(t, "spoilt blocks", d, api.EOF, 0, len(text))
		for i, other := range kept {
			if !isSpoilt(other) {
				t.Errorf("kind %d: the end has changed frame %d", kind, i)
			}
		}
	}
}

const spoilt = 7777

// spoil writes into a block's lists, one after the other, and into their spare room.
func spoil(b api.Block) {
	for c := range b.Samples {
		l := b.Samples[c][:cap(b.Samples[c])]
		for i := range l {
			l[i] = spoilt + c
		}
	}
	l := b.Samples[:cap(b.Samples)]
	for c := len(b.Samples); c < len(l); c++ {
		l[c] = nil
	}
}

func isSpoilt(b api.Block) bool {
	for c := range b.Samples {
		for _, v := range b.Samples[c] {
			if v != spoilt+c {
				return false
			}
		}
	}
	return true
}

// P2: decoders are changed by calls on themselves alone.
func TestP2DecodersStandAlone(t *testing.T) {
	text := streamOf(usual(), quiet(0), quiet(1), quiet(2))
	bad := quiet(1)
	bad.turn16 = 1
	other := streamOf(usual(), quiet(0), bad)
	for _, kind := range kinds {
		a, b := open(t, text, kind), open(t, other, 1-kind)
		wantBlock(t, "a", a, api.Block{Samples: [][]int{{0}, {0}}})
		wantBlock(t, "b", b, api.Block{Samples: [][]int{{0}, {0}}})
		wantEnd(t, "b", b, api.ErrFrame, 1, 58)
		wantBlock(t, "a", a, api.Block{First: 1, Samples: [][]int{{1}, {-1}}})
		wantEnd(t, "b", b, api.ErrFrame, 1, 58)
		wantBlock(t, "a", a, api.Block{First: 2, Samples: [][]int{{2}, {-2}}})
		wantEnd(t, "a", a, api.EOF, 0, len(text))
		if a.Info() != usual() || b.Info() != usual() {
			t.Errorf("kind %d: Info has changed", kind)
		}
	}
}

// Words: a source's own error is found through the place, and its own place is not taken for the stream's.
func TestP7SourcesOwnError(t *testing.T) {
	text := streamOf(usual(), quiet(0), quiet(1))
	deep := &api.Error{Place: api.Place{Frame: 7, At: 99}, Err: errOwn}
	for _, kind := range kinds {
		d, _ := flac.Open(texts(text[:len(text)-1]).fails(deep), kind)
		passes(t, "ahead of it", d, 1)
		wantEnd(t, "wrapped twice", d, deep, 1, 58)
		d, _ = flac.Open(texts(text).fails(deep), kind)
		passes(t, "ahead of it", d, 2)
		wantEnd(t, "wrapped twice, where a frame would begin", d, deep, 2, 74)
	}
}
