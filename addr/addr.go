// Package addr has addresses and prefixes.
package addr

import (
	"math/bits"
	"strconv"

	"burgage/api"
)

// width is how many bits an address has, and so the greatest Len of a prefix.
const width = 32

// Parse an address.
func Parse(text string) (int, error) {
	b, ok := readOctets(text)
	if !ok {
		return 0, api.ErrSyntax
	}
	return join(b), nil
}

// Print an address.
func Print(a int) (string, error) {
	if !Valid(a) {
		return "", api.ErrRange
	}
	return writeOctets(split(a)), nil
}

// Check a prefix.
func Check(p api.Prefix) error {
	if p.Len < 0 || p.Len > width || !Valid(p.Addr) {
		return api.ErrRange
	}
	if p.Addr&behind(p.Len) != 0 {
		return api.ErrShape
	}
	return nil
}

// ParsePrefix of a text.
func ParsePrefix(text string) (api.Prefix, error) {
	p, ok := readPrefix(text)
	if !ok {
		return api.Prefix{}, api.ErrSyntax
	}
	if err := Check(p); err != nil {
		return api.Prefix{}, err
	}
	return p, nil
}

// PrintPrefix as a text.
func PrintPrefix(p api.Prefix) (string, error) {
	if err := Check(p); err != nil {
		return "", err
	}
	return writeOctets(split(p.Addr)) + "/" + strconv.Itoa(p.Len), nil
}

// Ends of a prefix.
func Ends(p api.Prefix) (first, last int, err error) {
	if err := Check(p); err != nil {
		return 0, 0, err
	}
	return p.Addr, p.Addr | behind(p.Len), nil
}

// Within one another.
func Within(p, q api.Prefix) (bool, error) {
	if err := Check(p); err != nil {
		return false, err
	}
	if err := Check(q); err != nil {
		return false, err
	}
	return q.Len <= p.Len && cut(p.Addr, q.Len) == q, nil
}

// Halves of a prefix.
func Halves(p api.Prefix) (low, high api.Prefix, err error) {
	if err := Check(p); err != nil {
		return api.Prefix{}, api.Prefix{}, err
	}
	if p.Len == width {
		return api.Prefix{}, api.Prefix{}, api.ErrNone
	}
	n := p.Len + 1
	return cut(p.Addr, n), cut(p.Addr|behind(p.Len), n), nil
}

// Up by a bit.
func Up(p api.Prefix) (api.Prefix, error) {
	if err := Check(p); err != nil {
		return api.Prefix{}, err
	}
	if p.Len == 0 {
		return api.Prefix{}, api.ErrNone
	}
	return cut(p.Addr, p.Len-1), nil
}

// Both addresses in one.
func Both(a, b int) (api.Prefix, error) {
	if !Valid(a) || !Valid(b) {
		return api.Prefix{}, api.ErrRange
	}
	return cut(a, width-bits.Len(uint(a^b))), nil
}

// Valid says whether a number is an address.
func Valid(a int) bool {
	return a >= 0 && a <= api.MaxAddr
}

// behind has a 1 for each bit of an address that stands behind its first n; n is from 0 to width.
func behind(n int) int {
	return 1<<(width-n) - 1
}

// cut gives the prefix of Len n that has the address a; n is from 0 to width.
func cut(a, n int) api.Prefix {
	return api.Prefix{Addr: a &^ behind(n), Len: n}
}
