package run

import (
	"strconv"
	"strings"

	"burgage/addr"
	"burgage/api"
)

// maxDigits of a number.
const maxDigits = 9

// unread is thrown where a line is none that may be.
type unread struct{}

// wrong is thrown with an error that answers a line. Errors are not thrown bare: by their types they could not be
// told from what the language throws.
type wrong struct{ err error }

// must throws an error on, so that a line goes no further.
func must[T any](value T, err error) T {
	if err != nil {
		panic(wrong{err})
	}
	return value
}

// row of a call: its verb, and how many words stand behind that.
type row struct {
	verb  string
	words int
}

func call(verb string, w []string) api.Call {
	switch (row{verb, len(w)}) {
	case row{"net", 2}:
		return api.Call{What: api.Net, Name: w[0], Owner: w[1]}
	case row{"add", 3}:
		return api.Call{What: api.Add, Name: w[0], Prefix: prefix(w[1]), Owner: w[2]}
	case row{"take", 2}:
		return api.Call{What: api.Take, Name: w[0], Prefix: prefix(w[1])}
	case row{"place", 3}:
		return api.Call{What: api.Place, Name: w[0], Addr: address(w[1]), Owner: w[2]}
	case row{"leave", 2}:
		return api.Call{What: api.Leave, Name: w[0], Addr: address(w[1])}
	case row{"next", 4}:
		// The number is read first: a line that is bad by it is so whatever the prefix is.
		bits := number(w[2])
		return api.Call{What: api.NextPrefix, Name: w[0], Prefix: prefix(w[1]), Len: bits, Owner: w[3]}
	case row{"host", 3}:
		return api.Call{What: api.NextAddr, Name: w[0], Prefix: prefix(w[1]), Owner: w[2]}
	case row{"list", 1}:
		return api.Call{What: api.List, Name: w[0]}
	case row{"who", 2}:
		return api.Call{What: api.Who, Name: w[0], Addr: address(w[1])}
	}
	panic(unread{})
}

func prefix(word string) api.Prefix { return must(addr.ParsePrefix(word)) }

func address(word string) int { return must(addr.Parse(word)) }

// number of a word that is just how the number is written.
func number(word string) int {
	n, err := strconv.Atoi(word)
	if err != nil || strconv.Itoa(n) != word || len(strings.TrimPrefix(word, "-")) > maxDigits {
		panic(unread{})
	}
	return n
}
