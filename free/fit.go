package free

import (
	"burgage/api"
)

// width is how many bits an address has, and so the greatest Len of a prefix.
const width = 32

// checkLen says whether a prefix of Len n can be within p.
func checkLen(p api.Prefix, n int) error {
	if n < p.Len || n > width {
		return api.ErrRange
	}
	return nil
}

// gapsFor gives the gaps in which prefixes of Len n are looked for. They are not looked for in Blocks, which
// can be too many where the gaps are not.
func gapsFor(p api.Prefix, l []api.Prefix, n int) ([]api.Span, error) {
	gaps, err := Gaps(p, l)
	if err != nil {
		return nil, err
	}
	if err := checkLen(p, n); err != nil {
		return nil, err
	}
	return gaps, nil
}

// fit says how many prefixes of Len n have all of their addresses in a span, and, if there are any, where
// the first one begins; n is from 0 to width. No prefix lies across two gaps, so that each gap is asked alone.
func fit(s api.Span, n int) (first, many int) {
	size := 1 << (width - n)
	from := (s.Low + size - 1) / size
	to := (s.High + 1) / size
	return from * size, max(0, to-from)
}

// tightest finds the block with the greatest Len that is not above n, of these the first one.
func tightest(blocks []api.Prefix, n int) (best api.Prefix, ok bool) {
	for _, b := range blocks {
		if b.Len <= n && (!ok || b.Len > best.Len) {
			best, ok = b, true
		}
	}
	return best, ok
}
