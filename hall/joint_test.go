package hall

import (
	"errors"
	"testing"

	"burgage/api"
	"burgage/plain"
)

// TestH1Joined has errors joined by themselves: no calls of a hall have two come up together.
func TestH1Joined(t *testing.T) {
	for _, c := range []struct {
		errs []error
		told api.Errno
		text string
	}{
		{nil, api.OK, ""},
		{[]error{nil}, api.OK, ""},
		{[]error{nil, nil, nil}, api.OK, ""},
		{[]error{api.ErrFull}, api.ErrFull, "ErrFull"},
		{[]error{api.ErrFull, nil}, api.ErrFull, "ErrFull"},
		{[]error{nil, api.ErrNone, nil}, api.ErrNone, "ErrNone"},
		{[]error{api.ErrClash, api.ErrNone}, api.ErrClash, "ErrClash, ErrNone"},
		{[]error{nil, api.ErrNone, nil, api.ErrClash, api.ErrDown}, api.ErrNone, "ErrNone, ErrClash, ErrDown"},
	} {
		err := joined(c.errs...)
		if plain.Told(err) != c.told || err != nil && err.Error() != c.text {
			t.Errorf("%v joined: %v, want %v with %q", c.errs, err, c.told, c.text)
		}
	}
}

// TestH1JoinedTellsOne has the first one told and no other, and a single one as it is.
func TestH1JoinedTellsOne(t *testing.T) {
	if err := joined(nil, api.ErrDown); err != api.ErrDown {
		t.Errorf("a single one: %#v", err)
	}
	err := joined(api.ErrState, api.ErrDown, api.ErrNone)
	for e := api.OK; e <= api.ErrDown; e++ {
		if errors.Is(err, e) != (e == api.ErrState) {
			t.Errorf("%v: Is of %v is %v", err, e, errors.Is(err, e))
		}
	}
}

// TestH1JoinedKeepsItsList has the errors that are handed in stay as they are.
func TestH1JoinedKeepsItsList(t *testing.T) {
	errs := []error{nil, api.ErrNone, nil, api.ErrDown}
	joined(errs...)
	if errs[0] != nil || errs[1] != api.ErrNone || errs[2] != nil || errs[3] != api.ErrDown {
		t.Errorf("the list is %v now", errs)
	}
}
