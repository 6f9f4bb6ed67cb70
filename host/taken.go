package host

import (
	"burgage/addr"
	"burgage/api"
)

// usableAndTaken gives the usable addresses of p, and those of them that are among used. The map has each of
// these once, however often it is used.
func usableAndTaken(p api.Prefix, used []int) (api.Span, map[int]struct{}, error) {
	s, err := Usable(p)
	if err != nil {
		return api.Span{}, nil, err
	}
	if err := checkUsed(used); err != nil {
		return api.Span{}, nil, err
	}
	taken := map[int]struct{}{}
	for _, a := range used {
		if s.Low <= a && a <= s.High {
			taken[a] = struct{}{}
		}
	}
	return s, taken, nil
}

// checkUsed looks at a list of any addresses.
func checkUsed(used []int) error {
	if len(used) > api.MaxUsed {
		return api.ErrFull
	}
	for _, a := range used {
		if !addr.Valid(a) {
			return api.ErrRange
		}
	}
	return nil
}
