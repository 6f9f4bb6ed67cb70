package log

import "iter"

// headLen is how many bytes, ahead of a list, say how long it is.
const headLen = 2

// headed puts how long b is ahead of it. No list of changes has more bytes than two bytes can say.
func headed(b []byte) []byte {
	return append([]byte{byte(len(b) >> 8), byte(len(b))}, b...)
}

// wholes goes through the lists at the beginning of b that are there whole, each without its head.
func wholes(b []byte) iter.Seq[[]byte] {
	return func(yield func([]byte) bool) {
		rest := b
		for len(rest) >= headLen {
			end := headLen + int(rest[0])<<8 + int(rest[1])
			if end > len(rest) || !yield(rest[headLen:end]) {
				return
			}
			rest = rest[end:]
		}
	}
}

// wholeLen is how many bytes the whole lists have, with their heads.
func wholeLen(b []byte) int {
	n := 0
	for l := range wholes(b) {
		n += headLen + len(l)
	}
	return n
}
