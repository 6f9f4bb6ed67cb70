package cover

import (
	"iter"
	"math/bits"

	"burgage/api"
)

// width is how many bits an address has.
const width = 32

// blocks goes through the prefixes that a span falls into, rising. To take the greatest one each time
// is what makes them few: a prefix that has the first address left over can be no greater.
func blocks(s api.Span) iter.Seq[api.Prefix] {
	return func(yield func(api.Prefix) bool) {
		for low := s.Low; low <= s.High; {
			free := blockBits(low, s.High)
			if !yield(api.Prefix{Addr: low, Len: width - free}) {
				return
			}
			low += 1 << free
		}
	}
}

// blockBits says how many bits are free in the greatest prefix that begins at low and does not go beyond
// high: no more than low has 0s at its end, and no more than the addresses that are left can fill.
func blockBits(low, high int) int {
	zeros := bits.TrailingZeros(uint(low))
	fill := bits.Len(uint(high-low+1)) - 1
	return min(zeros, fill)
}
