package flac_test

import (
	"errors"
	"testing"

	"flacpair/api"
	"flacpair/flac"
)

var kinds = []int{api.Slow, api.Fast}

var errOwn = errors.New("the source's own")

// give is what a source gives at one call.
type give struct {
	text string
	err  error
}

// script is a source that gives piece by piece, and keeps how it was asked. Behind the last piece there is no more.
type script struct {
	gives  []give
	asked  []int
	failed int // how often it gave an error
}

func (s *script) Read(n int) (string, error) {
	s.asked = append(s.asked, n)
	if len(s.gives) == 0 {
		s.failed++
		return "", api.EOF
	}
	g := &s.gives[0]
	if g.err != nil {
		s.failed++
		return "", g.err
	}
	m := min(max(n, 0), len(g.text))
	text := g.text[:m]
	g.text = g.text[m:]
	if g.text == "" {
		s.gives = s.gives[1:]
	}
	return text, nil
}

func texts(l ...string) *script {
	s := &script{}
	for _, t := range l {
		s.gives = append(s.gives, give{text: t})
	}
	return s
}

// empties gives nothing n times, ahead of what is given then.
func (s *script) empties(n int) *script {
	s.gives = append(s.gives, make([]give, n)...)
	return s
}

func (s *script) then(text string) *script {
	s.gives = append(s.gives, give{text: text})
	return s
}

func (s *script) fails(err error) *script {
	s.gives = append(s.gives, give{err: err})
	return s
}

func newBits(t *testing.T, src api.Source, kind int) api.Bits {
	t.Helper()
	b, err := flac.Bits(src, kind)
	if err != nil || b == nil {
		t.Fatalf("Bits, kind %d: %v, %v", kind, b, err)
	}
	return b
}

// wantError sees that err is just this error, with this place.
func wantError(t *testing.T, what string, err, want error, frame, at int) {
	t.Helper()
	var e *api.Error
	if !errors.As(err, &e) {
		t.Errorf("%s: %v has no place", what, err)
		return
	}
	if !errors.Is(err, want) || e.Err != want || e.Frame != frame || e.At != at {
		t.Errorf("%s: %v, want %v (frame %d, byte %d)", what, err, want, frame, at)
	}
}

func wantRead(t *testing.T, b api.Bits, n int, want uint64) {
	t.Helper()
	at := b.At()
	v, err := b.Read(n)
	if v != want || err != nil || b.At() != at+n {
		t.Errorf("%T: Read(%d) at %d: %x, %v, then at %d, want %x", b, n, at, v, err, b.At(), want)
	}
}

func wantUnary(t *testing.T, b api.Bits, want int) {
	t.Helper()
	at := b.At()
	n, err := b.Unary()
	if n != want || err != nil || b.At() != at+want+1 {
		t.Errorf("%T: Unary at %d: %d, %v, then at %d, want %d", b, at, n, err, b.At(), want)
	}
}

func wantAlign(t *testing.T, b api.Bits, want bool) {
	t.Helper()
	at := b.At()
	ok, err := b.Align()
	if ok != want || err != nil || b.At() != (at+7)/8*8 {
		t.Errorf("%T: Align at %d: %v, %v, then at %d, want %v", b, at, ok, err, b.At(), want)
	}
}

// noRead sees that Read(n) tells this error and reads nothing.
func noRead(t *testing.T, b api.Bits, n int, want error) {
	t.Helper()
	at := b.At()
	v, err := b.Read(n)
	wantError(t, "Read", err, want, -1, at/8)
	if v != 0 || b.At() != at {
		t.Errorf("%T: Read(%d) at %d: %x beside an error, then at %d", b, n, at, v, b.At())
	}
}

// noUnary sees that Unary tells this error and reads nothing.
func noUnary(t *testing.T, b api.Bits, want error) {
	t.Helper()
	at := b.At()
	n, err := b.Unary()
	wantError(t, "Unary", err, want, -1, at/8)
	if n != 0 || b.At() != at {
		t.Errorf("%T: Unary at %d: %d beside an error, then at %d", b, at, n, b.At())
	}
}
