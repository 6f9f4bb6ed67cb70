package vers

import "sort"

// version of a key.
type version struct {
	at    int
	value string
	gone  bool
}

// history has the versions of one key, rising by their numbers, each number once.
type history []version

// with gives the history with one more version. None has a greater number than v, so that only the last one
// can have the same one, and give way.
func (h history) with(v version) history {
	if h.last() == v.at {
		h = h[:len(h)-1]
	}
	return append(h, v)
}

// last gives the greatest number, 0 if there is none: no version has that one.
func (h history) last() int {
	if len(h) == 0 {
		return 0
	}
	return h[len(h)-1].at
}

// upTo gives how many versions have numbers not above at.
func (h history) upTo(at int) int {
	return sort.Search(len(h), func(i int) bool { return h[i].at > at })
}

// value gives what at sees, if there is something.
func (h history) value(at int) (string, bool) {
	n := h.upTo(at)
	if n == 0 || h[n-1].gone {
		return "", false
	}
	return h[n-1].value, true
}

// unseen gives how many versions, the first ones, neither at nor a greater number sees.
func (h history) unseen(at int) int {
	n := h.upTo(at)
	if n == 0 || h[n-1].gone {
		return n
	}
	return n - 1
}
