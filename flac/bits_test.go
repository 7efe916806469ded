package flac_test

import (
	"fmt"
	"math"
	"strings"
	"testing"

	"flacpair/api"
	"flacpair/flac"
)

// P5: the document's example.
func TestP5Example(t *testing.T) {
	for _, kind := range kinds {
		b := newBits(t, texts("\x05\x80"), kind)
		wantUnary(t, b, 5)
		wantRead(t, b, 2, 1)
		wantAlign(t, b, true)
		wantUnary(t, b, 0)
		noUnary(t, b, api.ErrEnd)
		wantRead(t, b, 7, 0)
	}
}

// P5: every count of bits at every place in a byte, with and without enough of them.
func TestP5EachCount(t *testing.T) {
	text := "\x9e\x37\x79\xb9\x7f\x4a\x7c\x15\xf3"
	for _, kind := range kinds {
		for ahead := range 9 {
			for n := range 65 {
				b := newBits(t, texts(text), kind)
				m := &model{digits: digits(text), behind: api.ErrEnd}
				compare(t, b, m, []int{ahead, n, n, n, 1})
			}
		}
	}
}

// P5: wrong counts read nothing, wherever the reader stands, and are told ahead of the source's errors.
func TestP5WrongCount(t *testing.T) {
	for _, kind := range kinds {
		b := newBits(t, texts("\xff\xf0"), kind)
		for _, c := range []struct {
			skip int
			want uint64
		}{{0, 0}, {3, 7}, {9, 0x1ff}, {4, 0}} {
			wantRead(t, b, c.skip, c.want)
			for _, n := range []int{-1, 65, 66, 128, math.MinInt, math.MaxInt} {
				noRead(t, b, n, api.ErrArg)
			}
		}
		noRead(t, b, 1, api.ErrEnd)
	}
}

// P5: a one that stands far behind, over many pieces; and none.
func TestP5LongUnary(t *testing.T) {
	for _, kind := range kinds {
		for _, bytes := range []int{0, 1, 7, 8, 9, 63, 64, 511, 512, 513, 3000} {
			for _, last := range []string{"\x80", "\x01", "\x10\x00"} {
				text := "\xe0" + strings.Repeat("\x00", bytes) + last
				b := newBits(t, texts(text), kind)
				compare(t, b, &model{digits: digits(text), behind: api.ErrEnd}, []int{3, unary, 3, unary, align, 1})
			}
			b := newBits(t, texts("\xe0"+strings.Repeat("\x00", bytes)), kind)
			wantRead(t, b, 3, 7)
			noUnary(t, b, api.ErrEnd)
			wantRead(t, b, 5, 0)
			for range bytes {
				noUnary(t, b, api.ErrEnd)
				wantRead(t, b, 8, 0)
			}
			noRead(t, b, 1, api.ErrEnd)
		}
	}
}

// P5: Align at each place, over noughts, over a one, and where nothing is left.
func TestP5Align(t *testing.T) {
	for _, kind := range kinds {
		for ahead := range 9 {
			for place := range 9 {
				text := string([]byte{byte(uint(0x100) >> place), 0xff})
				b := newBits(t, texts(text), kind)
				if _, err := b.Read(ahead); err != nil {
					t.Fatal(err)
				}
				wantAlign(t, b, ahead == 0 || place == 0 || place <= ahead)
				wantAlign(t, b, true)
			}
		}
		b := newBits(t, texts(), kind)
		wantAlign(t, b, true)
	}
}

// KIND: no reader of another kind.
func TestP5WrongKind(t *testing.T) {
	for _, kind := range []int{2, -1, 99, math.MinInt, math.MaxInt} {
		s := texts("x")
		b, err := flac.Bits(s, kind)
		wantError(t, "Bits", err, api.ErrArg, -1, 0)
		if b != nil || len(s.asked) != 0 {
			t.Errorf("kind %d: %v beside an error, the source was asked %v", kind, b, s.asked)
		}
	}
}

// What is done with a reader: a count of bits to Read, or one of these.
const (
	unary = -100 - iota
	align
)

// model: the bits of a whole text, and the error behind them.
type model struct {
	digits string
	at     int
	behind error
}

func digits(text string) string {
	var o strings.Builder
	for i := range len(text) {
		fmt.Fprintf(&o, "%08b", text[i])
	}
	return o.String()
}

func (m *model) read(n int) (uint64, error) {
	if n < 0 || n > 64 {
		return 0, api.ErrArg
	}
	if n > len(m.digits)-m.at {
		return 0, m.behind
	}
	v := uint64(0)
	for _, d := range m.digits[m.at : m.at+n] {
		v = 2*v + uint64(d-'0')
	}
	m.at += n
	return v, nil
}

func (m *model) unary() (uint64, error) {
	n := strings.IndexByte(m.digits[m.at:], '1')
	if n < 0 {
		return 0, m.behind
	}
	m.at += n + 1
	return uint64(n), nil
}

func (m *model) align() bool {
	to := (m.at + 7) / 8 * 8
	ok := !strings.Contains(m.digits[m.at:to], "1")
	m.at = to
	return ok
}

// compare does the same with both, and holds the answers against each other.
func compare(t *testing.T, b api.Bits, m *model, todo []int) {
	t.Helper()
	for i, n := range todo {
		what := fmt.Sprintf("%T: step %d of %v", b, i, todo)
		place := m.at / 8
		var got, want uint64
		var err, wrong error
		switch n {
		case unary:
			var k int
			k, err = b.Unary()
			got = uint64(k)
			want, wrong = m.unary()
		case align:
			var ok bool
			ok, err = b.Align()
			if ok != m.align() {
				t.Errorf("%s: %v", what, ok)
			}
		default:
			got, err = b.Read(n)
			want, wrong = m.read(n)
		}
		if wrong != nil {
			wantError(t, what, err, wrong, -1, place)
		}
		if got != want || (err == nil) != (wrong == nil) || b.At() != m.at {
			t.Errorf("%s: %x, %v, at %d, want %x, %v, at %d", what, got, err, b.At(), want, wrong, m.at)
		}
	}
}
