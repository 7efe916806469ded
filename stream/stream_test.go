package stream

import (
	"testing"

	"flacpair/api"
)

func TestAttemptTellsFaults(t *testing.T) {
	if err := attempt(func() { throw(api.ErrMeta) }); err != api.ErrMeta {
		t.Errorf("a fault: %v", err)
	}
	if err := attempt(func() {}); err != nil {
		t.Errorf("no fault: %v", err)
	}
}

// A panic that is no fault would be hidden, if it were told as an error.
func TestAttemptLetsOthersGoOn(t *testing.T) {
	defer func() {
		if x := recover(); x != "other" {
			t.Errorf("what went on: %v", x)
		}
	}()
	attempt(func() { panic("other") })
}

func TestCheck(t *testing.T) {
	if err := attempt(func() { check(true, api.ErrMeta) }); err != nil {
		t.Errorf("right: %v", err)
	}
	if err := attempt(func() { check(false, api.ErrMeta) }); err != api.ErrMeta {
		t.Errorf("wrong: %v", err)
	}
}

func TestFits(t *testing.T) {
	for _, c := range []struct {
		sample, bits int
		want         bool
	}{
		{7, 4, true}, {8, 4, false}, {-8, 4, true}, {-9, 4, false}, {0, 1, true}, {-1, 1, true}, {1, 1, false},
		{1<<32 - 1, 33, true}, {1 << 32, 33, false}, {-1 << 32, 33, true}, {-1<<32 - 1, 33, false},
	} {
		if fits(c.sample, c.bits) != c.want {
			t.Errorf("%d in %d bits: %v", c.sample, c.bits, !c.want)
		}
	}
}
