package audit

import (
	"errors"
	"testing"

	"burgage/api"
)

func TestU1First(t *testing.T) {
	other := errors.New("other")
	for _, c := range []struct {
		errs []error
		want error
	}{
		{nil, nil},
		{[]error{nil}, nil},
		{[]error{nil, nil, nil}, nil},
		{[]error{api.ErrNone}, api.ErrNone},
		{[]error{nil, api.ErrNone}, api.ErrNone},
		{[]error{api.ErrNone, nil}, api.ErrNone},
		{[]error{api.ErrState, api.ErrNone}, api.ErrState},
		{[]error{nil, api.ErrShape, nil, api.ErrNone, api.ErrState}, api.ErrShape},
		{[]error{nil, other, api.ErrNone}, other},
	} {
		if got := first(c.errs...); got != c.want {
			t.Errorf("first of %v: %v, want %v", c.errs, got, c.want)
		}
	}
}
