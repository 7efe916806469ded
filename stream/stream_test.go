package stream

import (
	"testing"

	"flacpair/api"
)

func TestAttemptTellsFaults(t *testing.T) {
	if err := attempt(func() { throw(api.ErrMeta) }); err != api.ErrMeta {
		t.Errorf("a fault: %v", err)
	}
	if err := attempt(func() {}); err != nil {
		t.Errorf("no fault: %v", err)
	}
}

// A panic that is no fault would be hidden, if it were told as an error.
func TestAttemptLetsOthersGoOn(t *testing.T) {
	defer func() {
		if x := recover(); x != "other" {
			t.Errorf("what went on: %v", x)
		}
	}()
	attempt(func() { panic("other") })
}
