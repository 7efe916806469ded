package bitread

import (
	"strings"
	"testing"

	"flacpair/api"
)

// endless gives the same text again and again.
type endless struct{ text string }

func (e endless) Read(n int) (string, error) { return e.text[:min(n, len(e.text))], nil }

func TestRoomDoesNotGrow(t *testing.T) {
	src := endless{strings.Repeat("\x35", 2*api.MaxRead)}
	slow, fast := NewSlow(src), NewFast(src)
	for n := range 100000 {
		a, _ := slow.Read(n % 65)
		b, _ := fast.Read(n % 65)
		if a != b {
			t.Fatalf("Read(%d) at %d: %x and %x", n%65, slow.At(), a, b)
		}
	}
	if len(slow.have) > 2*api.MaxRead || len(fast.have) > 2*api.MaxRead {
		t.Errorf("%d and %d bytes are kept", len(slow.have), len(fast.have))
	}
}

func TestPoolEndsWithAByte(t *testing.T) {
	f := NewFast(endless{"\x00\x91"})
	for n := range 5000 {
		if n%3 == 0 {
			f.Unary()
		} else {
			f.Read(n % 65)
		}
		if (f.at+f.held)%8 != 0 || f.pool<<f.held != 0 {
			t.Fatalf("step %d: at %d, pool %x of %d bits", n, f.at, f.pool, f.held)
		}
	}
}
