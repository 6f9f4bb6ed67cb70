package plot

import (
	"strconv"
	"strings"

	"burgage/addr"
	"burgage/api"
)

// How many digits a key has of an address, in hex, and of a Len, in decimal.
const (
	addrDigits = 8
	lenDigits  = 2
)

// kind of keys of a net, and what each of them begins with.
type kind string

const (
	prefixes kind = "p/"
	addrs    kind = "a/"
)

// head is what all keys of that kind and net have ahead of their digits.
func (k kind) head(net string) string { return string(k) + net + "/" }

// stretch has all keys of that kind and net: 0 is the byte behind the / that their head ends with.
func (k kind) stretch(net string) (low, high string) {
	return k.head(net), string(k) + net + "0"
}

// cut gives the net of a key of that kind, and what stands where the digits should.
func (k kind) cut(key string) (net, digits string, ok bool) {
	rest, ok := strings.CutPrefix(key, string(k))
	if !ok {
		return "", "", false
	}
	net, digits, ok = strings.Cut(rest, "/")
	return net, digits, ok && Name(net) == nil
}

// write a number with that many digits, or as many as it needs.
func write(n, base, digits int) string {
	s := strconv.FormatInt(int64(n), base)
	return strings.Repeat("0", max(0, digits-len(s))) + s
}

// read a number of so few digits that it is an int. It takes none of the other ways of writing that strconv does.
func read(s string, base int) (n int, ok bool) {
	for i := range len(s) {
		digit := strings.IndexByte("0123456789abcdef"[:base], s[i])
		if digit < 0 {
			return 0, false
		}
		n = n*base + digit
	}
	return n, true
}

// single is the prefix of one address.
func single(a int) api.Prefix { return api.Prefix{Addr: a, Len: 32} }

// within tells of two prefixes that may be whether each address of p is one of q.
func within(p, q api.Prefix) bool {
	yes, _ := addr.Within(p, q)
	return yes
}
