package bitread

import (
	"strings"
	"testing"

	"flacpair/api"
)

// endless gives the same text again and again.
type endless struct{ text string }

func (e endless) Read(n int) (string, error) { return e.text[:min(n, len(e.text))], nil }

func TestRoomDoesNotGrow(t *testing.T) {
	src := endless{strings.Repeat("\x35", 2*api.MaxRead)}
	slow, fast := NewSlow(src), NewFast(src)
	for n := range 100000 {
		a, _ := slow.Read(n % 65)
		b, _ := fast.Read(n % 65)
		if a != b {
			t.Fatalf("Read(%d) at %d: %x and %x", n%65, slow.At(), a, b)
		}
	}
	if len(slow.have) > 2*api.MaxRead || len(fast.have) > 2*api.MaxRead {
		t.Errorf("%d and %d bytes are kept", len(slow.have), len(fast.have))
	}
}

func TestPoolEndsWithAByte(t *testing.T) {
	f := NewFast(endless{"\x00\x91"})
	for n := range 5000 {
		if n%3 == 0 {
			f.Unary()
		} else {
			f.Read(n % 65)
		}
		if (f.at+f.held)%8 != 0 || f.pool<<f.held != 0 {
			t.Fatalf("step %d: at %d, pool %x of %d bits", n, f.at, f.pool, f.held)
		}
	}
}

func TestSkipFromAnyBit(t *testing.T) {
	src := endless{"\x9e\x37\x79\xb9\x7f\x4a\x7c"}
	for ahead := range 70 {
		for _, n := range []int{0, 1, 7, 8, 9, 63, 64, 65, 8*api.MaxRead - 1, 8 * api.MaxRead, 8*api.MaxRead + 1, 100003} {
			want := pattern(src.text, ahead+n)
			for kind, r := range []Reader{New(src, api.Slow), New(src, api.Fast)} {
				r.Read(ahead / 2)
				r.Read(ahead - ahead/2)
				err := r.Skip(n)
				v, _ := r.Read(64)
				if err != nil || v != want || r.At() != ahead+n+64 {
					t.Fatalf("%d, then Skip(%d), kind %d: %v, then %x at %d, want %x", ahead, n, kind, err, v, r.At(), want)
				}
			}
		}
	}
}

// pattern tells 64 bits of a text that is repeated, from bit at on.
func pattern(text string, at int) uint64 {
	v := uint64(0)
	for i := at; i < at+64; i++ {
		v = v<<1 | uint64(text[i/8%len(text)]>>(7-i%8)&1)
	}
	return v
}

// Passing over much must not keep it.
func TestSkipNeedsNoRoom(t *testing.T) {
	src := endless{strings.Repeat("\x35", api.MaxRead)}
	slow, fast := NewSlow(src), NewFast(src)
	slow.Skip(1 << 27)
	fast.Skip(1 << 27)
	if len(slow.have) > 2*api.MaxRead || len(fast.have) > 2*api.MaxRead {
		t.Errorf("%d and %d bytes are kept", len(slow.have), len(fast.have))
	}
}

// once gives a text in pieces of so many bytes, and then an error.
type once struct {
	text   string
	piece  int
	behind error
}

func (o *once) Read(n int) (string, error) {
	m := min(n, o.piece, len(o.text))
	if m == 0 {
		return "", o.behind
	}
	text := o.text[:m]
	o.text = o.text[m:]
	return text, nil
}

// What was read since the mark is kept, whatever is read and however it comes.
func TestMarked(t *testing.T) {
	text := strings.Repeat("\x9e\x37\x79\xb9\x7f\x4a\x7c", 300)
	for _, piece := range []int{1, 3, 100, 512} {
		for kind := range 2 {
			r := New(&once{text, piece, api.EOF}, kind)
			mark := 0
			for n := 1; ; n++ {
				if n%50 == 0 {
					r.Align()
					r.Mark()
					mark = r.At() / 8
				}
				if _, err := r.Read(n % 65); err != nil {
					break
				}
				if n > 50 && string(r.Marked()) != text[mark:r.At()/8] {
					t.Fatalf("kind %d, pieces of %d: marked at %d, at bit %d: %x", kind, piece, mark, r.At(), r.Marked())
				}
			}
		}
	}
}

// Bytes ahead of the mark are let go.
func TestMarkLetsGo(t *testing.T) {
	for kind := range 2 {
		r := New(endless{strings.Repeat("\x35", api.MaxRead)}, kind)
		for range 1000 {
			r.Mark()
			for range 100 {
				r.Read(64)
			}
			if len(r.Marked()) != 800 {
				t.Fatalf("kind %d: %d bytes since the mark", kind, len(r.Marked()))
			}
		}
		var c *common
		switch x := r.(type) {
		case *Slow:
			c = &x.common
		case *Fast:
			c = &x.common
		}
		if len(c.have) > 800+2*api.MaxRead {
			t.Errorf("kind %d: %d bytes are kept", kind, len(c.have))
		}
	}
}

// Only EOF right where the reader stands is the end.
func TestEnded(t *testing.T) {
	for kind := range 2 {
		r := New(&once{"ab", 1, api.EOF}, kind)
		for n := range 16 {
			if r.Ended() || r.At() != n {
				t.Errorf("kind %d: ended at bit %d, now at %d", kind, n, r.At())
			}
			r.Read(1)
		}
		if !r.Ended() || !r.Ended() {
			t.Errorf("kind %d: no end at %d", kind, r.At())
		}
		r = New(&once{"a", 1, api.ErrSum}, kind)
		r.Read(16)
		r.Read(8)
		if r.Ended() {
			t.Errorf("kind %d: another error was taken for the end", kind)
		}
		r = New(&once{"a", 1, api.EOF}, kind)
		r.Read(16)
		if r.Ended() {
			t.Errorf("kind %d: ended ahead of what has come", kind)
		}
	}
}
