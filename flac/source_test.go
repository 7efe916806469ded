package flac_test

import (
	"errors"
	"fmt"
	"strings"
	"testing"

	"flacpair/api"
)

// P4: a source is asked for 1 to 512 bytes at a time, whatever is wanted.
func TestP4Asked(t *testing.T) {
	for _, kind := range kinds {
		s := texts(strings.Repeat("\x00", 5000)+"\x01", strings.Repeat("\xff", 700), "\x00")
		b := newBits(t, s, kind)
		wantRead(t, b, 64, 0)
		wantUnary(t, b, 8*4992+7)
		for range 5600 {
			wantUnary(t, b, 0)
		}
		noUnary(t, b, api.ErrEnd)
		wantRead(t, b, 8, 0)
		for _, n := range s.asked {
			if n < 1 || n > api.MaxRead {
				t.Errorf("kind %d: the source was asked for %d bytes", kind, n)
			}
		}
	}
}

// P4: eight times nothing is no error, wherever it stands; each byte begins the count anew.
func TestP4Empties(t *testing.T) {
	for _, kind := range kinds {
		s := texts().empties(8).then("\xab").empties(8).then("\xcd").empties(8).then("\x01\x02")
		b := newBits(t, s, kind)
		wantRead(t, b, 16, 0xabcd)
		wantUnary(t, b, 7)
		wantRead(t, b, 8, 2)
		noRead(t, b, 1, api.ErrEnd)
	}
}

// P4: eight times nothing ahead of an error is no error of its own.
func TestP4EmptiesAheadOfAnError(t *testing.T) {
	for _, kind := range kinds {
		noRead(t, newBits(t, texts().empties(8), kind), 1, api.ErrEnd)
		noUnary(t, newBits(t, texts().empties(8).fails(errOwn), kind), errOwn)
	}
}

// P4: nine times nothing is ErrStuck, told when a bit behind it is wanted; what would come then is not asked for.
func TestP4Stuck(t *testing.T) {
	for _, kind := range kinds {
		s := texts("\x80").empties(9).then("\xff")
		b := newBits(t, s, kind)
		noRead(t, b, 9, api.ErrStuck)
		wantRead(t, b, 1, 1)
		noUnary(t, b, api.ErrStuck)
		wantRead(t, b, 7, 0)
		noRead(t, b, 1, api.ErrStuck)
		noRead(t, b, 64, api.ErrStuck)
		wantRead(t, b, 0, 0)
		if len(s.asked) != 10 {
			t.Errorf("kind %d: the source was asked %d times, want 10", kind, len(s.asked))
		}
	}
}

// P4: an error is told when a bit behind it is wanted, not sooner, and again; the source is not asked again.
func TestP4Errors(t *testing.T) {
	for _, kind := range kinds {
		for _, c := range []struct{ given, told error }{
			{errOwn, errOwn}, {api.EOF, api.ErrEnd}, {api.ErrSum, api.ErrSum}, {api.ErrStuck, api.ErrStuck},
		} {
			s := texts("\x12\x34").fails(c.given)
			b := newBits(t, s, kind)
			wantRead(t, b, 4, 1)
			noRead(t, b, 13, c.told)
			wantRead(t, b, 12, 0x234)
			wantAlign(t, b, true)
			wantRead(t, b, 0, 0)
			noRead(t, b, 1, c.told)
			noRead(t, b, 64, c.told)
			noUnary(t, b, c.told)
			if s.failed != 1 {
				t.Errorf("kind %d: the source told %v %d times, want once", kind, c.given, s.failed)
			}
		}
	}
}

// P4: an error behind bytes that are not wanted is never told.
func TestP4NotSooner(t *testing.T) {
	for _, kind := range kinds {
		b := newBits(t, texts("\xff\xff").fails(errOwn), kind)
		for range 16 {
			wantUnary(t, b, 0)
		}
		wantAlign(t, b, true)
		b = newBits(t, texts().fails(errOwn), kind)
		wantRead(t, b, 0, 0)
		wantAlign(t, b, true)
		if b.At() != 0 {
			t.Errorf("kind %d: at %d", kind, b.At())
		}
	}
}

// P4: an EOF that a source has wrapped says no less that there is no more.
func TestP4WrappedEOF(t *testing.T) {
	for _, kind := range kinds {
		b := newBits(t, texts("\x01").fails(fmt.Errorf("here: %w", api.EOF)), kind)
		noRead(t, b, 9, api.ErrEnd)
		wantUnary(t, b, 7)
		noUnary(t, b, api.ErrEnd)
	}
}

// Words: errors.Is finds a source's error through the place, and through what the source itself wrapped.
func TestP4ErrorsAreFound(t *testing.T) {
	for _, kind := range kinds {
		deep := &api.Error{Place: api.Place{Frame: 7, At: 99}, Err: errOwn}
		b := newBits(t, texts("\x00\x00").fails(deep), kind)
		wantRead(t, b, 15, 0)
		_, err := b.Read(2)
		var e *api.Error
		if !errors.Is(err, errOwn) || !errors.As(err, &e) || e.Frame != -1 || e.At != 1 {
			t.Errorf("kind %d: %v", kind, err)
		}
	}
}
