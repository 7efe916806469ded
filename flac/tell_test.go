package flac_test

import (
	"fmt"
	"reflect"
	"testing"

	"flacpair/api"
	"flacpair/flac"
)

// everyWay opens a stream in one piece and in many, of both kinds.
func everyWay(t *testing.T, what, text string, behind error, see func(what string, d api.Decoder)) {
	t.Helper()
	for way, open := range ways(text, behind) {
		for _, kind := range kinds {
			name := fmt.Sprintf("%s, %s, kind %d", what, way, kind)
			d, err := flac.Open(open(), kind)
			if err != nil {
				t.Errorf("%s: Open: %v", name, err)
				continue
			}
			see(name, d)
		}
	}
}

// wantBlock sees that the next frame is this one.
func wantBlock(t *testing.T, what string, d api.Decoder, want api.Block) {
	t.Helper()
	b, err := d.Next()
	if err != nil || !reflect.DeepEqual(b, want) {
		t.Errorf("%s: %.200s, %v, want %.200s", what, fmt.Sprint(b), err, fmt.Sprint(want))
	}
}

// wantEnd sees that an error is told again and again, and that each time it is the caller's.
func wantEnd(t *testing.T, what string, d api.Decoder, want error, frame, at int) {
	t.Helper()
	for range 3 {
		b, err := d.Next()
		if b.First != 0 || b.Samples != nil {
			t.Errorf("%s: %v beside an error", what, b)
		}
		if d.At() != at {
			t.Errorf("%s: At is %d, want %d", what, d.At(), at)
		}
		if want == api.EOF {
			if err != api.EOF {
				t.Errorf("%s: %v, want EOF as it is", what, err)
			}
			continue
		}
		wantError(t, what, err, want, frame, at)
		if e, ok := err.(*api.Error); ok {
			*e = api.Error{Place: api.Place{Frame: 77, At: 77}, Err: errOwn}
		}
	}
}

// passes tells frames, and does not look at them.
func passes(t *testing.T, what string, d api.Decoder, frames int) {
	t.Helper()
	for range frames {
		if _, err := d.Next(); err != nil {
			t.Errorf("%s: %v", what, err)
		}
	}
}

// nextFails sees that behind so many frames an error is told, with its place.
func nextFails(t *testing.T, what, text string, behind, want error, frames, at int) {
	t.Helper()
	everyWay(t, what, text, behind, func(what string, d api.Decoder) {
		t.Helper()
		passes(t, what, d, frames)
		wantEnd(t, what, d, want, frames, at)
	})
}

// frameFails sees that the first frame of a stream tells an error, also if nothing stands behind the byte that holds the last of its digits that are looked at; and that without this byte something else is told. The digits are counted from the frame's beginning on.
func frameFails(t *testing.T, what string, info api.Info, f frame, want error, digits int) {
	t.Helper()
	text := streamOf(info, f)
	need := 42 + (digits+7)/8
	nextFails(t, what, text, api.EOF, want, 0, 42)
	nextFails(t, what+", nothing behind it", text[:need], errOwn, want, 0, 42)
	nextFails(t, what+", a byte too few", text[:need-1], errOwn, errOwn, 0, 42)
}

// bodyFails is frameFails, with digits counted from the first subframe on.
func bodyFails(t *testing.T, what string, info api.Info, f frame, want error, digits int) {
	t.Helper()
	frameFails(t, what, info, f, want, 8*f.headSize()+digits)
}

// nextGoes sees that frames are told as these samples, by channel, and then EOF.
func nextGoes(t *testing.T, what, text string, frames ...[][]int) {
	t.Helper()
	everyWay(t, what, text, api.EOF, func(what string, d api.Decoder) {
		t.Helper()
		first := 0
		for _, samples := range frames {
			wantBlock(t, what, d, api.Block{First: first, Samples: samples})
			first += len(samples[0])
		}
		wantEnd(t, what, d, api.EOF, 0, len(text))
	})
}

// same is n times v.
func same(v, n int) []int {
	l := make([]int, n)
	for i := range l {
		l[i] = v
	}
	return l
}

// open makes a decoder of a text in one piece.
func open(t *testing.T, text string, kind int) api.Decoder {
	t.Helper()
	d, err := flac.Open(texts(text), kind)
	if err != nil {
		t.Fatal(err)
	}
	return d
}
