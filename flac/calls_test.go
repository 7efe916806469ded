package flac_test

import (
	"math"
	"strings"
	"testing"

	"flacpair/api"
	"flacpair/flac"
	"flacpair/plain"
)

// dice are numbers that look thrown, the same each time.
type dice uint64

func (d *dice) below(n int) int {
	*d = *d*6364136223846793005 + 1442695040888963407
	return int(uint64(*d)>>33) % n
}

// text makes bytes in which noughts stand in long and short runs.
func (d *dice) text(n int) string {
	var o strings.Builder
	for o.Len() < n {
		if d.below(4) == 0 {
			o.WriteString(strings.Repeat("\x00", d.below(20)))
		}
		o.WriteByte(byte(d.below(256) >> d.below(8)))
	}
	return o.String()[:n]
}

// source cuts a text into pieces, with reads of nothing between them, and ends it with an error.
func (d *dice) source(text string, end error) *script {
	s := &script{}
	for text != "" {
		n := min(len(text), 1+d.below(1+d.below(600)))
		s.empties(d.below(4) * d.below(3)).then(text[:n])
		text = text[n:]
	}
	return s.fails(end)
}

func (d *dice) todo(n int) []int {
	l := make([]int, n)
	for i := range l {
		switch d.below(8) {
		case 0, 1:
			l[i] = unary
		case 2:
			l[i] = align
		case 3:
			l[i] = d.below(140) - 70
		default:
			l[i] = d.below(1 + d.below(65))
		}
	}
	return l
}

// P1, P4, P5: many texts, cut in many ways, against the bits of the whole text.
func TestP1AnyBits(t *testing.T) {
	d := dice(1)
	for range 1500 {
		text := d.text(d.below(1 + d.below(1600)))
		end, behind := error(api.EOF), error(api.ErrEnd)
		if d.below(3) == 0 {
			end, behind = errOwn, errOwn
		}
		todo := d.todo(10 + d.below(60))
		for _, kind := range kinds {
			s := d.source(text, end)
			compare(t, newBits(t, s, kind), &model{digits: digits(text), behind: behind}, todo)
			if s.failed > 1 {
				t.Errorf("kind %d: the source was asked again behind its error", kind)
			}
		}
		if t.Failed() {
			t.Fatalf("text %x, todo %v", text, todo)
		}
	}
}

// P1: no text and no number makes a call panic.
func TestP1AnyNumbers(t *testing.T) {
	numbers := []int{math.MinInt, -65, -1, 0, 1, 2, 63, 64, 65, 1 << 32, math.MaxInt}
	for _, kind := range numbers {
		for _, n := range numbers {
			for _, text := range []string{"", "\x00", "x", strings.Repeat("\x00", 100)} {
				flac.Sums(text, kind, n)
				b, _ := flac.Bits(texts(text), kind)
				if b == nil {
					continue
				}
				b.Read(n)
				b.Unary()
				b.Align()
				b.Read(n)
				b.At()
			}
		}
	}
}

// P1: no source at all is a wrong argument, not a panic.
func TestP1NoSource(t *testing.T) {
	for _, kind := range kinds {
		b, err := flac.Bits(nil, kind)
		wantError(t, "Bits", err, api.ErrArg, -1, 0)
		if b != nil {
			t.Errorf("kind %d: %v beside an error", kind, b)
		}
	}
}

// P2: readers are changed by calls on themselves alone.
func TestP2ReadersStandAlone(t *testing.T) {
	d := dice(2)
	const readers = 6
	var bits [readers]api.Bits
	var models [readers]*model
	for i := range readers {
		text := d.text(300 + 400*i)
		bits[i] = newBits(t, d.source(text, errOwn), kinds[i%2])
		models[i] = &model{digits: digits(text), behind: errOwn}
	}
	for range 3000 {
		i := d.below(readers)
		compare(t, bits[i], models[i], d.todo(1))
	}
}

// P2: an error that was told is the caller's: writing into it changes nothing that is told later.
func TestP2ErrorsAreFresh(t *testing.T) {
	for _, kind := range kinds {
		b := newBits(t, texts("\x00").fails(errOwn), kind)
		for range 2 {
			for _, n := range []int{9, 65} {
				_, err := b.Read(n)
				*err.(*api.Error) = api.Error{Err: api.ErrSum}
			}
			_, err := b.Unary()
			*err.(*api.Error) = api.Error{Err: api.ErrSum}
			_, err = flac.Bits(nil, kind)
			*err.(*api.Error) = api.Error{Err: api.ErrSum}
			_, _, _, err = flac.Sums("", kind, 0)
			*err.(*api.Error) = api.Error{Err: api.ErrSum}
		}
		noRead(t, b, 9, errOwn)
		noRead(t, b, 65, api.ErrArg)
		noUnary(t, b, errOwn)
		_, err := flac.Bits(nil, kind)
		wantError(t, "Bits", err, api.ErrArg, -1, 0)
		_, _, _, err = flac.Sums("", kind, 0)
		wantError(t, "Sums", err, api.ErrArg, -1, 0)
	}
}

// P2: beside an error every other result is empty, also where plain takes it apart.
func TestP2NothingBesideAnError(t *testing.T) {
	for _, kind := range kinds {
		b, _ := plain.NewBits(plain.Source{Text: "\xff\x00", Broken: 2}, kind)
		b.Read(8)
		if v, f := b.Read(9); v != 0 || f != (plain.Fault{E: 16, Frame: -1, At: 1}) {
			t.Errorf("kind %d: Read: %d %v", kind, v, f)
		}
		if v, f := b.Unary(); v != 0 || f != (plain.Fault{E: 16, Frame: -1, At: 1}) {
			t.Errorf("kind %d: Unary: %d %v", kind, v, f)
		}
		if v, f := b.Read(-1); v != 0 || f != (plain.Fault{E: 15, Frame: -1, At: 1}) {
			t.Errorf("kind %d: Read(-1): %d %v", kind, v, f)
		}
		if b.At() != 8 || b.Odd() {
			t.Errorf("kind %d: at %d, asked oddly: %v", kind, b.At(), b.Odd())
		}
	}
	if b, f := plain.NewBits(plain.Source{Broken: -1}, 2); b != nil || f != (plain.Fault{E: 15, Frame: -1}) {
		t.Errorf("kind 2: %v %v", b, f)
	}
	if a, b, m, f := plain.Sums("x", 2, 1); a != 0 || b != 0 || m != "" || f != (plain.Fault{E: 15, Frame: -1}) {
		t.Errorf("kind 2: %d %d %q %v", a, b, m, f)
	}
}
