package addr

import (
	"strconv"
	"strings"

	"burgage/api"
)

// octets are the four bytes of an address, the high one first.
type octets [4]byte

func split(a int) octets {
	var b octets
	for i := range b {
		b[i] = byte(a >> (8 * (len(b) - 1 - i)))
	}
	return b
}

func join(b octets) int {
	a := 0
	for _, x := range b {
		a = a<<8 | int(x)
	}
	return a
}

func writeOctets(b octets) string {
	text := ""
	for i, x := range b {
		if i > 0 {
			text += "."
		}
		text += strconv.Itoa(int(x))
	}
	return text
}

func readOctets(text string) (octets, bool) {
	var b octets
	for i := range b {
		word, rest, dot := strings.Cut(text, ".")
		if last := i == len(b)-1; dot == last {
			return octets{}, false
		}
		n, ok := readNumber(word, 255)
		if !ok {
			return octets{}, false
		}
		b[i] = byte(n)
		text = rest
	}
	return b, true
}

// readPrefix leaves open whether bits of Addr stand behind the first Len: that is no matter of the text.
func readPrefix(text string) (api.Prefix, bool) {
	word, rest, slash := strings.Cut(text, "/")
	if !slash {
		return api.Prefix{}, false
	}
	b, ok := readOctets(word)
	if !ok {
		return api.Prefix{}, false
	}
	n, ok := readNumber(rest, width)
	if !ok {
		return api.Prefix{}, false
	}
	return api.Prefix{Addr: join(b), Len: n}, true
}

// readNumber stops at the first digit that leads above most, so that no length of word overflows.
func readNumber(word string, most int) (int, bool) {
	if word == "" || word[0] == '0' && word != "0" {
		return 0, false
	}
	n := 0
	for i := range len(word) {
		c := word[i]
		if c < '0' || c > '9' {
			return 0, false
		}
		n = 10*n + int(c-'0')
		if n > most {
			return 0, false
		}
	}
	return n, true
}
