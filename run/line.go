package run

import (
	"strconv"
	"strings"

	"burgage/addr"
	"burgage/api"
	"burgage/hall"
)

// ok answers what is taken and has nothing to tell.
const ok = "ok"

// do looks at how many words there are ahead of what they are, since a session may be named by the word of another
// row: in `open list x` one that is named open asks.
func do(h *hall.Hall, words []string) string {
	switch len(words) {
	case 1:
		return doAlone(h, words[0])
	case 2:
		return doWith(h, words[0], words[1])
	}
	return ask(h, words[0], words[1], words[2:])
}

func doAlone(h *hall.Hall, verb string) string {
	switch verb {
	case "flush":
		return must(ok, h.Flush())
	case "safe":
		return strconv.Itoa(h.Safe())
	case "nets":
		return listed(h.Nets())
	}
	panic(unread{})
}

func doWith(h *hall.Hall, verb, word string) string {
	switch verb {
	case "open":
		return must(ok, h.Open(word))
	case "quit":
		return must(ok, h.Quit(word))
	case "close":
		return strconv.Itoa(must(h.Close(word)))
	case "crash":
		h.Crash(number(word))
		return ok
	case "fail":
		h.Fail(number(word))
		return ok
	}
	panic(unread{})
}

func ask(h *hall.Hall, who, verb string, words []string) string {
	c := call(verb, words)
	a := must(h.Ask(who, c))
	switch c.What {
	case api.NextPrefix:
		return must(addr.PrintPrefix(a.Prefix))
	case api.NextAddr:
		return must(addr.Print(a.Addr))
	case api.List:
		return listed(prefixes(a.List))
	case api.Who:
		return a.Owner
	}
	return ok
}

func prefixes(l []api.Prefix) []string {
	var texts []string
	for _, p := range l {
		texts = append(texts, must(addr.PrintPrefix(p)))
	}
	return texts
}

func listed(texts []string) string {
	if len(texts) == 0 {
		return "-"
	}
	return strings.Join(texts, " ")
}
