package stream

import (
	"testing"

	"flacpair/api"
)

func TestAttemptTellsFaults(t *testing.T) {
	if err := attempt(func() { throw(api.ErrMeta) }); err != api.ErrMeta {
		t.Errorf("a fault: %v", err)
	}
	if err := attempt(func() {}); err != nil {
		t.Errorf("no fault: %v", err)
	}
}

// A panic that is no fault would be hidden, if it were told as an error.
func TestAttemptLetsOthersGoOn(t *testing.T) {
	defer func() {
		if x := recover(); x != "other" {
			t.Errorf("what went on: %v", x)
		}
	}()
	attempt(func() { panic("other") })
}

func TestCheck(t *testing.T) {
	if err := attempt(func() { check(true, api.ErrMeta) }); err != nil {
		t.Errorf("right: %v", err)
	}
	if err := attempt(func() { check(false, api.ErrMeta) }); err != api.ErrMeta {
		t.Errorf("wrong: %v", err)
	}
}

func TestFits(t *testing.T) {
	for _, c := range []struct {
		sample, bits int
		want         bool
	}{
		{7, 4, true}, {8, 4, false}, {-8, 4, true}, {-9, 4, false}, {0, 1, true}, {-1, 1, true}, {1, 1, false},
		{1<<32 - 1, 33, true}, {1 << 32, 33, false}, {-1 << 32, 33, true}, {-1<<32 - 1, 33, false},
	} {
		if fits(c.sample, c.bits) != c.want {
			t.Errorf("%d in %d bits: %v", c.sample, c.bits, !c.want)
		}
	}
}

// A list is filled in order, whatever goes at once; what does not is asked for one by one.
func TestInTurn(t *testing.T) {
	for at := range 5 {
		for size := range 20 {
			next, ones := 0, 0
			many := func(out []int) int {
				n := min(at, len(out))
				for i := range n {
					out[i] = next
					next++
				}
				return n
			}
			one := func() int {
				next++
				ones++
				return next - 1
			}
			out := make([]int, size)
			inTurn(out, many, one)
			for i, v := range out {
				if v != i {
					t.Errorf("%d of %d, %d at once: %v", i, size, at, out)
				}
			}
			if want := size / (at + 1); ones != want || next != size {
				t.Errorf("%d, %d at once: %d by themselves, want %d; %d in all", size, at, ones, want, next)
			}
		}
	}
}

// A fault of one that is read by itself ends the list there.
func TestInTurnThrows(t *testing.T) {
	out := make([]int, 9)
	err := attempt(func() {
		inTurn(out,
			func(out []int) int { return copy(out, []int{1, 2}) },
			func() int { throw(api.ErrEnd); return 0 })
	})
	if err != api.ErrEnd || out[1] != 2 || out[2] != 0 {
		t.Errorf("%v, %v", err, out)
	}
}
