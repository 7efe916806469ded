package flac_test

import (
	"encoding/hex"
	"errors"
	"fmt"
	"math"
	"strings"
	"testing"

	"flacpair/api"
	"flacpair/flac"
)

const firstExample = "664c6143 80000022 10001000 00000f00 000f0ac4 42f00000 00013e84 b41807dc 69030758 6a3dad1a 2e0ffff8 69180000 bf0358fd 03128baa 9a"

func unhex(t *testing.T, s string) string {
	t.Helper()
	b, err := hex.DecodeString(strings.ReplaceAll(s, " ", ""))
	if err != nil {
		t.Fatal(err)
	}
	return string(b)
}

// turned is a text of which one byte is another.
func turned(s string, at int, b byte) string { return s[:at] + string([]byte{b}) + s[at+1:] }

// usual: what a usual stream says of itself.
func usual() api.Info {
	return api.Info{MinBlock: 16, MaxBlock: 4096, Rate: 44100, Channels: 2, Depth: 16, Sum: strings.Repeat("\x00", 16)}
}

// saying writes what a stream says of itself, digit by digit.
func saying(i api.Info) string {
	bits := fmt.Sprintf("%016b%016b%024b%024b%020b%03b%05b%036b", i.MinBlock, i.MaxBlock, i.MinFrame, i.MaxFrame, i.Rate, i.Channels-1, i.Depth-1, i.Total)
	var o strings.Builder
	for k := 0; k < len(bits); k += 8 {
		b := byte(0)
		for _, d := range bits[k : k+8] {
			b = 2*b + byte(d-'0')
		}
		o.WriteByte(b)
	}
	return o.String() + i.Sum
}

const last = 128

// metadata writes a block of metadata; last is added to the kind of the last one.
func metadata(kind int, text string) string {
	n := len(text)
	return string([]byte{byte(kind), byte(n >> 16), byte(n >> 8), byte(n)}) + text
}

func headOf(i api.Info) string { return "fLaC" + metadata(last, saying(i)) }

func show(i api.Info) string {
	i.Sum = hex.EncodeToString([]byte(i.Sum))
	return fmt.Sprintf("%+v", i)
}

func openFails(t *testing.T, what string, src api.Source, kind int, want error, at int) {
	t.Helper()
	what = fmt.Sprintf("%s, kind %d", what, kind)
	d, err := flac.Open(src, kind)
	wantError(t, what, err, want, -1, at)
	if d != nil {
		t.Errorf("%s: %v beside an error", what, d)
	}
}

func openGoes(t *testing.T, what string, src api.Source, kind int, info api.Info, at int) {
	t.Helper()
	d, err := flac.Open(src, kind)
	if err != nil || d == nil {
		t.Errorf("%s, kind %d: %v, %v", what, kind, d, err)
		return
	}
	for range 2 {
		if d.Info() != info || d.At() != at {
			t.Errorf("%s, kind %d: %s, at %d, want %s, at %d", what, kind, show(d.Info()), d.At(), show(info), at)
		}
	}
}

// ways gives a text in one piece and in many, with reads of nothing among them; behind it stands an error.
func ways(text string, behind error) map[string]func() api.Source {
	bytewise := func() *script {
		s := texts()
		for i := range len(text) {
			s.empties(i * 5 % 9).then(text[i : i+1])
		}
		return s.empties(8)
	}
	return map[string]func() api.Source{
		"in one piece":  func() api.Source { return texts(text).fails(behind) },
		"byte by byte":  func() api.Source { return bytewise().fails(behind) },
		"in odd pieces": func() api.Source { d := dice(len(text)); return d.source(text, behind) },
	}
}

// P6: the document's examples.
func TestP6Example(t *testing.T) {
	text := unhex(t, firstExample)
	info := api.Info{MinBlock: 4096, MaxBlock: 4096, MinFrame: 15, MaxFrame: 15, Rate: 44100, Channels: 2, Depth: 16, Total: 1, Sum: text[26:42]}
	for _, kind := range kinds {
		for way, open := range ways(text, api.EOF) {
			openGoes(t, way, open(), kind, info, 42)
		}
		for way, open := range ways(turned(text, 4, 0x81), api.EOF) {
			openFails(t, way, open(), kind, api.ErrMeta, 4)
		}
		for way, open := range ways(turned(text, 0, 0x67), api.EOF) {
			openFails(t, way, open(), kind, api.ErrMarker, 0)
		}
	}
}

// P6: each field at its edges, alone, so that none is taken for another.
func TestP6Fields(t *testing.T) {
	for name, change := range map[string]func(*api.Info){
		"least greatest size":    func(i *api.Info) { i.MaxBlock = 16 },
		"greatest least size":    func(i *api.Info) { i.MinBlock = 4096 },
		"sizes between":          func(i *api.Info) { i.MinBlock, i.MaxBlock = 257, 1025 },
		"least frame":            func(i *api.Info) { i.MinFrame = 1 },
		"greatest least frame":   func(i *api.Info) { i.MinFrame = 1<<24 - 1 },
		"least greatest frame":   func(i *api.Info) { i.MaxFrame = 1 },
		"greatest frame":         func(i *api.Info) { i.MaxFrame = 1<<24 - 1 },
		"one sample a second":    func(i *api.Info) { i.Rate = 1 },
		"greatest rate":          func(i *api.Info) { i.Rate = 1<<20 - 1 },
		"one channel":            func(i *api.Info) { i.Channels = 1 },
		"eight channels":         func(i *api.Info) { i.Channels = 8 },
		"Depth 4":                func(i *api.Info) { i.Depth = 4 },
		"Depth 17":               func(i *api.Info) { i.Depth = 17 },
		"Depth 32":               func(i *api.Info) { i.Depth = 32 },
		"Total and MD5 not told": func(i *api.Info) {},
		"one sample in all":      func(i *api.Info) { i.Total = 1 },
		"greatest Total":         func(i *api.Info) { i.Total = 1<<36 - 1 },
		"MD5":                    func(i *api.Info) { i.Sum = "\x00\x01\x02\x03\x04\x05\x06\x07\x88\x99\xaa\xbb\xcc\xdd\xee\xff" },
	} {
		info := usual()
		change(&info)
		for way, open := range ways(headOf(info), errOwn) {
			for _, kind := range kinds {
				openGoes(t, name+", "+way, open(), kind, info, 42)
			}
		}
	}
}

// P6: another marker is told when all four bytes are read, not sooner.
func TestP6Marker(t *testing.T) {
	text := headOf(usual())
	for _, kind := range kinds {
		for bit := range 32 {
			wrong := turned(text, bit/8, text[bit/8]^1<<(bit%8))
			openFails(t, "turned marker", texts(wrong), kind, api.ErrMarker, 0)
			openFails(t, "turned marker alone", texts(wrong[:4]).fails(errOwn), kind, api.ErrMarker, 0)
			openFails(t, "part of a turned marker", texts(wrong[:3]), kind, api.ErrEnd, 0)
		}
		openFails(t, "ID3", texts("ID3\x04"+text), kind, api.ErrMarker, 0)
		openFails(t, "nothing", texts(), kind, api.ErrEnd, 0)
	}
}

// P6: ErrMeta in each of its ways, as soon as the four bytes are read that say so, and not sooner.
func TestP6Meta(t *testing.T) {
	first := "fLaC"
	later := "fLaC" + metadata(0, saying(usual())) + metadata(4, "abc")
	type wrong struct{ ahead, block string }
	var l []wrong
	for kind := 1; kind < 128; kind++ {
		l = append(l, wrong{first, metadata(kind, saying(usual()))}, wrong{first, metadata(kind|last, saying(usual()))})
	}
	for _, n := range []int{0, 1, 33, 35, 34 + 256, 34 + 512, 34 + 65536} {
		l = append(l, wrong{first, metadata(0, strings.Repeat("\x10", n))}, wrong{first, metadata(last, strings.Repeat("\x10", n))})
	}
	for _, kind := range []int{0, last, 127, 127 | last} {
		l = append(l, wrong{later, metadata(kind, saying(usual()))}, wrong{later, metadata(kind, "")})
		l = append(l, wrong{later[:42], metadata(kind, "")})
	}
	for _, w := range l {
		what := fmt.Sprintf("block %.4x at %d", w.block, len(w.ahead))
		for _, kind := range kinds {
			openFails(t, what, texts(w.ahead+w.block), kind, api.ErrMeta, len(w.ahead))
			openFails(t, what+" alone", texts(w.ahead, w.block[:4]).fails(errOwn), kind, api.ErrMeta, len(w.ahead))
			openFails(t, what+", three bytes", texts(w.ahead, w.block[:3]), kind, api.ErrEnd, len(w.ahead))
		}
	}
}

// P6: ErrInfo in each of its ways, when all of the block is read, and not sooner.
func TestP6Info(t *testing.T) {
	for name, change := range map[string]func(*api.Info){
		"least size 15":                  func(i *api.Info) { i.MinBlock = 15 },
		"least size 0":                   func(i *api.Info) { i.MinBlock = 0 },
		"both sizes 15":                  func(i *api.Info) { i.MinBlock, i.MaxBlock = 15, 15 },
		"least size above the greatest":  func(i *api.Info) { i.MinBlock, i.MaxBlock = 17, 16 },
		"greatest size 0":                func(i *api.Info) { i.MaxBlock = 0 },
		"greatest size 4097":             func(i *api.Info) { i.MaxBlock = 4097 },
		"greatest size 65535":            func(i *api.Info) { i.MaxBlock = 65535 },
		"both sizes 4097":                func(i *api.Info) { i.MinBlock, i.MaxBlock = 4097, 4097 },
		"Depth 3":                        func(i *api.Info) { i.Depth = 3 },
		"Depth 1":                        func(i *api.Info) { i.Depth = 1 },
		"no samples a second":            func(i *api.Info) { i.Rate = 0 },
		"all of it wrong, other numbers": func(i *api.Info) { *i = api.Info{MinFrame: 9, Channels: 8, Depth: 2, Total: 5, Sum: i.Sum} },
	} {
		info := usual()
		change(&info)
		text := headOf(info)
		for _, kind := range kinds {
			for way, open := range ways(text, errOwn) {
				openFails(t, name+", "+way, open(), kind, api.ErrInfo, 4)
			}
			openFails(t, name+", more behind", texts(turned(text, 4, 0)+"\xff\xff\xff\xff"), kind, api.ErrInfo, 4)
			openFails(t, name+", a byte too few", texts(text[:41]), kind, api.ErrEnd, 4)
			openFails(t, name+", a byte too few", texts(text[:41]).fails(errOwn), kind, errOwn, 4)
		}
	}
}

// P6 and P4: what stands in the way at each byte of the head is told with its block's place; behind the head it is not told.
func TestP6EachEnd(t *testing.T) {
	parts := []string{"fLaC", metadata(0, saying(usual())), metadata(4, ""), metadata(1, strings.Repeat("\xff", 600)), metadata(126, "abc"), metadata(3|last, "\x00")}
	text := strings.Join(parts, "")
	begin, part := 0, 0
	for n := range len(text) {
		if n == begin+len(parts[part]) {
			begin, part = n, part+1
		}
		for _, kind := range kinds {
			openFails(t, fmt.Sprintf("%d bytes", n), texts(text[:n]), kind, api.ErrEnd, begin)
			openFails(t, fmt.Sprintf("%d bytes", n), texts(text[:n/2], text[n/2:n]).fails(errOwn), kind, errOwn, begin)
			stuck := texts(text[:n]).empties(9).then(text[n:])
			if n == 0 {
				stuck = texts().empties(9).then(text)
			}
			openFails(t, fmt.Sprintf("%d bytes", n), stuck, kind, api.ErrStuck, begin)
		}
	}
	for _, behind := range []error{api.EOF, errOwn, api.ErrStuck} {
		for way, open := range ways(text, behind) {
			for _, kind := range kinds {
				openGoes(t, way, open(), kind, usual(), len(text))
			}
		}
	}
}

// P6: an empty last block wants nothing that stands behind it.
func TestP6LastIsEmpty(t *testing.T) {
	text := "fLaC" + metadata(0, saying(usual())) + metadata(5|last, "")
	for _, kind := range kinds {
		s := texts(text).fails(errOwn)
		openGoes(t, "empty last block", s, kind, usual(), 46)
		if s.failed != 0 {
			t.Errorf("kind %d: the source was asked for more than the head", kind)
		}
	}
}

// P6: later blocks of all kinds and sizes are passed over, whatever is in them.
func TestP6LaterBlocks(t *testing.T) {
	info := usual()
	info.Total = 77
	ahead := "fLaC" + metadata(0, saying(info))
	for k := 1; k < 127; k++ {
		text := ahead + metadata(k, "fLaC\x00\x00\x00\x22") + metadata(127-k|last, "\xff")
		for _, kind := range kinds {
			openGoes(t, fmt.Sprintf("block of kind %d", k), texts(text), kind, info, len(text))
		}
	}
	for _, n := range []int{0, 1, 7, 8, 9, 255, 256, 457, 458, 459, 511, 512, 513, 1024, 65535, 65536, 1<<24 - 1} {
		text := ahead + metadata(6, strings.Repeat("\xff", n)) + metadata(1|last, "\x80\x00")
		what := fmt.Sprintf("block of %d bytes", n)
		for _, kind := range kinds {
			openGoes(t, what, texts(text+"\xff"), kind, info, len(text))
			openFails(t, what, texts(text[:45+n]), kind, api.ErrEnd, 42)
			openFails(t, what, texts(text[:len(text)-1]), kind, api.ErrEnd, 46+n)
		}
	}
}

// P4: how Open asks a source, and that it does not ask again behind an error.
func TestP6Asks(t *testing.T) {
	text := "fLaC" + metadata(0, saying(usual())) + metadata(6, strings.Repeat("\x00", 3000)) + metadata(1|last, "")
	for _, kind := range kinds {
		for _, n := range []int{0, 3, 41, 700, 3045, len(text)} {
			s := texts(text[:n]).fails(errOwn)
			flac.Open(s, kind)
			for _, n := range s.asked {
				if n < 1 || n > api.MaxRead {
					t.Errorf("kind %d: the source was asked for %d bytes", kind, n)
				}
			}
			if s.failed > 1 {
				t.Errorf("kind %d: the source was asked again behind its error", kind)
			}
		}
	}
}

// Words: a source's own error is found through the place, and its own place is not taken for the stream's.
func TestP6SourcesOwnError(t *testing.T) {
	for _, kind := range kinds {
		deep := &api.Error{Place: api.Place{Frame: 7, At: 99}, Err: errOwn}
		_, err := flac.Open(texts(headOf(usual())[:20]).fails(deep), kind)
		var e *api.Error
		if !errors.Is(err, errOwn) || !errors.As(err, &e) || e.Frame != -1 || e.At != 4 {
			t.Errorf("kind %d: %v", kind, err)
		}
		openFails(t, "wrapped EOF", texts("fL").fails(fmt.Errorf("here: %w", api.EOF)), kind, api.ErrEnd, 0)
	}
}

// P1: no source at all is a wrong argument, not a panic.
func TestP6NoSource(t *testing.T) {
	for _, kind := range kinds {
		openFails(t, "no source", nil, kind, api.ErrArg, 0)
	}
}

// KIND: a wrong kind is told ahead of all else, and the source is not asked.
func TestP6WrongKind(t *testing.T) {
	for _, kind := range []int{-1, 2, 99, math.MinInt, math.MaxInt} {
		for _, text := range []string{headOf(usual()), "gLaC", ""} {
			s := texts(text)
			openFails(t, "wrong kind", s, kind, api.ErrArg, 0)
			if len(s.asked) != 0 {
				t.Errorf("kind %d: the source was asked %v", kind, s.asked)
			}
		}
	}
}

// P2: decoders stand alone, and an error that was told is the caller's.
func TestP6StandAlone(t *testing.T) {
	for _, kind := range kinds {
		one, two := usual(), usual()
		two.Rate, two.Sum = 8000, strings.Repeat("s", 16)
		a, _ := flac.Open(texts(headOf(one)), kind)
		_, err := flac.Open(texts("gLaC"), kind)
		*err.(*api.Error) = api.Error{Err: api.ErrSum}
		b, _ := flac.Open(texts("fLaC"+metadata(0, saying(two))+metadata(1|last, "")), kind)
		if a.Info() != one || a.At() != 42 || b.Info() != two || b.At() != 46 {
			t.Errorf("kind %d: %s, at %d; %s, at %d", kind, show(a.Info()), a.At(), show(b.Info()), b.At())
		}
		openFails(t, "once more", texts("gLaC"), kind, api.ErrMarker, 0)
	}
}

// headModel tells what Open must tell of a whole text: where the head ends, or the error and its place.
func headModel(s string, behind error) (end int, wrong error, at int) {
	if len(s) < 4 {
		return 0, behind, 0
	}
	if s[:4] != "fLaC" {
		return 0, api.ErrMarker, 0
	}
	for at = 4; ; {
		if len(s) < at+4 {
			return 0, behind, at
		}
		kind := int(s[at] & 127)
		n := int(s[at+1])<<16 + int(s[at+2])<<8 + int(s[at+3])
		if kind == 127 || (kind == 0) != (at == 4) || at == 4 && n != 34 {
			return 0, api.ErrMeta, at
		}
		if len(s) < at+4+n {
			return 0, behind, at
		}
		if at == 4 && !rightInfo(s[8:]) {
			return 0, api.ErrInfo, at
		}
		isLast := s[at] >= last
		at += 4 + n
		if isLast {
			return at, nil, at
		}
	}
}

func rightInfo(s string) bool {
	least, greatest := int(s[0])<<8+int(s[1]), int(s[2])<<8+int(s[3])
	rate := int(s[10])<<12 + int(s[11])<<4 + int(s[12])>>4
	depth := int(s[12]&1)<<4 + int(s[13])>>4 + 1
	return least >= 16 && least <= greatest && greatest <= 4096 && rate > 0 && depth >= 4
}

// head makes a head in which most is right.
func (d *dice) head() string {
	info := usual()
	info.MinBlock = 10 + d.below(20)
	info.MaxBlock = 4090 + d.below(8)
	info.Rate = d.below(4)
	info.Depth = 1 + d.below(32)
	text := "fLaC" + metadata(d.below(8)/7*d.below(256), saying(info))
	for range d.below(4) {
		text += metadata(1+d.below(126), d.text(d.below(1+d.below(900))))
	}
	return text + metadata(last+1+d.below(126), d.text(d.below(30))) + d.text(d.below(40))
}

// P1, P4, P6: many heads, turned, ended and cut in many ways.
func TestP6AnyHead(t *testing.T) {
	d := dice(6)
	for range 4000 {
		text := d.head()
		for range d.below(3) * d.below(2) {
			text = turned(text, d.below(min(len(text), 60)), byte(d.below(256)))
		}
		if d.below(3) == 0 {
			text = text[:d.below(len(text))]
		}
		given, behind := error(api.EOF), error(api.ErrEnd)
		if d.below(3) == 0 {
			given, behind = errOwn, errOwn
		}
		end, wrong, at := headModel(text, behind)
		for _, kind := range kinds {
			dec, err := flac.Open(d.source(text, given), kind)
			if wrong != nil {
				wantError(t, "Open", err, wrong, -1, at)
			} else if err != nil || dec.At() != end || saying(dec.Info()) != text[8:42] {
				t.Errorf("kind %d: %v", kind, err)
			}
			if (dec == nil) != (wrong != nil) {
				t.Errorf("kind %d: a decoder beside %v", kind, err)
			}
		}
		if t.Failed() {
			t.Fatalf("text %x, want %d, %v, %d", text, end, wrong, at)
		}
	}
}
