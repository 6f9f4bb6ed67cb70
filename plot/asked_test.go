package plot_test

import (
	"slices"
	"strings"
	"testing"

	"burgage/api"
	"burgage/desk"
	"burgage/plain"
	"burgage/plot"
)

// askedWorld has a net with prefixes in one another, an address in one of them, in two of them, and, put there by
// other means, in none.
var askedWorld = []string{
	"n/x=o", "n/xy=o", "n/y=o",
	"p/x/0000000028=o", "p/x/0000001028=o", "p/x/0000001030=o", "p/x/0000004030=o", "p/x/0000005030=o",
	"p/xy/0000000000=o", "p/y/0000000000=o",
	"a/x/00000003=o", "a/x/00000011=o", "a/x/00000051=o", "a/x/00000052=o", "a/x/000000ff=o",
	"a/xy/00000003=o", "a/y/00000003=o",
}

// all is what stands behind the head of keys where all of them are asked for.
const all = "*"

// askedCase is a call in askedWorld: what it asks for, in its order, and, if nothing is wrong, the key that it changes.
type askedCase struct {
	name    string
	c       api.Call
	asks    string
	changes string
	told    api.Errno
}

func pre(a, n int) api.Prefix { return api.Prefix{Addr: a, Len: n} }

// askedCases; each one's Owner is p.
var askedCases = []askedCase{
	{"a net", api.Call{What: api.Net, Name: "z"}, "n/z", "n/z", api.OK},
	{"a net that is there", api.Call{What: api.Net, Name: "x"}, "n/x", "", api.ErrClash},

	{"Add, no net", api.Call{What: api.Add, Name: "z", Prefix: pre(0, 28)}, "n/z", "", api.ErrNone},
	{"Take, no net", api.Call{What: api.Take, Name: "z", Prefix: pre(0, 28)}, "n/z", "", api.ErrNone},
	{"Place, no net", api.Call{What: api.Place, Name: "z", Addr: 3}, "n/z", "", api.ErrNone},
	{"Leave, no net", api.Call{What: api.Leave, Name: "z", Addr: 3}, "n/z", "", api.ErrNone},
	{"NextPrefix, no net", api.Call{What: api.NextPrefix, Name: "z", Prefix: pre(0, 28), Len: 30}, "n/z", "", api.ErrNone},
	{"NextAddr, no net", api.Call{What: api.NextAddr, Name: "z", Prefix: pre(0, 28)}, "n/z", "", api.ErrNone},
	{"List, no net", api.Call{What: api.List, Name: "z"}, "n/z", "", api.ErrNone},
	{"Who, no net", api.Call{What: api.Who, Name: "z", Addr: 3}, "n/z", "", api.ErrNone},

	{"Add", api.Call{What: api.Add, Name: "x", Prefix: pre(32, 28)}, "n/x p/x/0000002028", "p/x/0000002028", api.OK},
	{"Add, there", api.Call{What: api.Add, Name: "x", Prefix: pre(0, 28)}, "n/x p/x/0000000028", "", api.ErrClash},

	{"Take, not there", api.Call{What: api.Take, Name: "x", Prefix: pre(32, 28)}, "n/x p/x/0000002028", "", api.ErrNone},
	{"Take, one within", api.Call{What: api.Take, Name: "x", Prefix: pre(16, 28)}, "n/x p/x/0000001028 p/x/* a/x/*", "", api.ErrState},
	{"Take, an address left", api.Call{What: api.Take, Name: "x", Prefix: pre(0, 28)}, "n/x p/x/0000000028 p/x/* a/x/*", "", api.ErrState},
	{"Take", api.Call{What: api.Take, Name: "x", Prefix: pre(16, 30)}, "n/x p/x/0000001030 p/x/* a/x/*", "p/x/0000001030", api.OK},

	{"Place, no prefix", api.Call{What: api.Place, Name: "x", Addr: 32}, "n/x p/x/* a/x/00000020", "", api.ErrState},
	{"Place, no prefix and there", api.Call{What: api.Place, Name: "x", Addr: 255}, "n/x p/x/* a/x/000000ff", "", api.ErrState},
	{"Place, there", api.Call{What: api.Place, Name: "x", Addr: 3}, "n/x p/x/* a/x/00000003", "", api.ErrClash},
	{"Place", api.Call{What: api.Place, Name: "x", Addr: 4}, "n/x p/x/* a/x/00000004", "a/x/00000004", api.OK},

	{"Leave, not there", api.Call{What: api.Leave, Name: "x", Addr: 4}, "n/x a/x/00000004", "", api.ErrNone},
	{"Leave", api.Call{What: api.Leave, Name: "x", Addr: 3}, "n/x a/x/00000003", "a/x/00000003", api.OK},

	{"NextPrefix, not there", api.Call{What: api.NextPrefix, Name: "x", Prefix: pre(32, 28), Len: 30}, "n/x p/x/*", "", api.ErrNone},
	{"NextPrefix, wrong Len", api.Call{What: api.NextPrefix, Name: "x", Prefix: pre(0, 28), Len: 33}, "n/x p/x/*", "", api.ErrRange},
	{"NextPrefix, none", api.Call{What: api.NextPrefix, Name: "x", Prefix: pre(16, 28), Len: 28}, "n/x p/x/*", "", api.ErrNone},
	{"NextPrefix, itself", api.Call{What: api.NextPrefix, Name: "x", Prefix: pre(0, 28), Len: 28}, "n/x p/x/*", "", api.ErrClash},
	{"NextPrefix", api.Call{What: api.NextPrefix, Name: "x", Prefix: pre(16, 28), Len: 30}, "n/x p/x/*", "p/x/0000001430", api.OK},

	{"NextAddr, not there", api.Call{What: api.NextAddr, Name: "x", Prefix: pre(32, 28)}, "n/x p/x/*", "", api.ErrNone},
	{"NextAddr, none", api.Call{What: api.NextAddr, Name: "x", Prefix: pre(80, 30)}, "n/x p/x/* a/x/*", "", api.ErrNone},
	{"NextAddr", api.Call{What: api.NextAddr, Name: "x", Prefix: pre(16, 28)}, "n/x p/x/* a/x/*", "a/x/00000012", api.OK},

	{"List", api.Call{What: api.List, Name: "x"}, "n/x p/x/*", "", api.OK},

	{"Who, there", api.Call{What: api.Who, Name: "x", Addr: 3}, "n/x a/x/00000003", "", api.OK},
	{"Who, of a prefix", api.Call{What: api.Who, Name: "x", Addr: 4}, "n/x a/x/00000004 p/x/*", "", api.OK},
	{"Who, none", api.Call{What: api.Who, Name: "x", Addr: 32}, "n/x a/x/00000020 p/x/*", "", api.ErrNone},
}

// probes are keys, of which each stands alone for what was asked.
var probes = []string{
	"n/x", "n/xy", "n/y", "n/z", "n/w", "n/", "n/x0",
	"p/x/0000000028", "p/x/0000001028", "p/x/0000001030", "p/x/0000001430", "p/x/0000002028", "p/x/ffffffff32",
	"p/x/", "p/x/\xff", "p/x/none", "p/x", "p/x.", "p/x0", "p/xy/0000000028", "p/y/0000000028", "p/z/0000000028",
	"a/x/00000003", "a/x/00000004", "a/x/00000011", "a/x/00000012", "a/x/00000020", "a/x/000000ff", "a/x/ffffffff",
	"a/x/", "a/x/\xff", "a/x/none", "a/x", "a/x.", "a/x0", "a/xy/00000003", "a/y/00000003", "a/z/00000003",
}

// covers tells whether a key is one that was asked for.
func covers(asks []string, key string) bool {
	return slices.ContainsFunc(asks, func(ask string) bool {
		head, many := strings.CutSuffix(ask, all)
		return ask == key || many && strings.HasPrefix(key, head)
	})
}

// left gives a transaction that may ask n times more.
func left(t *testing.T, d *desk.Desk, n int) int {
	t.Helper()
	id := begin(t, d)
	for range api.MaxReads - n {
		d.Get(id, "zz")
	}
	return id
}

// TestP3Asked has each call come as far as n questions, and then another transaction change each key: the first one
// clashes just if it was among these questions, or is one that it changed.
func TestP3Asked(t *testing.T) {
	for _, a := range askedCases {
		a.c.Owner = "p"
		asks := strings.Split(a.asks, " ")
		for n := range len(asks) + 1 {
			for _, probe := range probes {
				wantAsked(t, a, asks, n, probe)
			}
		}
	}
}

func wantAsked(t *testing.T, a askedCase, asks []string, n int, probe string) {
	t.Helper()
	d := fresh(t)
	stock(t, d, askedWorld...)
	id := left(t, d, n)
	answer, err := plot.Do(d, id, a.c)
	want, known := api.ErrFull, asks[:n]
	if n == len(asks) {
		want = a.told
		known = append(slices.Clone(asks), a.changes)
	}
	if plain.Told(err) != want || err != nil && !same(answer, api.Answer{}) {
		t.Fatalf("%s, %d questions left: answers %+v %v, want %v", a.name, n, answer, err, want)
	}
	stock(t, d, probe+"=q")
	_, err = d.Commit(id)
	want = api.OK
	if covers(known, probe) {
		want = api.ErrClash
	}
	if plain.Told(err) != want {
		t.Errorf("%s, %d questions left, %q changed: Commit tells %v, want %v", a.name, n, probe, err, want)
	}
}

// TestP3Changed holds each call to changing the one key that it should, and no other.
func TestP3Changed(t *testing.T) {
	for _, a := range askedCases {
		a.c.Owner = "p"
		d, id := stocked(t, askedWorld...)
		want := slices.Clone(d.All())
		plot.Do(d, id, a.c)
		commit(t, d, id)
		gone := a.c.What == api.Take || a.c.What == api.Leave
		want = slices.DeleteFunc(want, func(p api.Pair) bool { return p.Key == a.changes })
		if a.changes != "" && !gone {
			want = append(want, api.Pair{Key: a.changes, Value: "p"})
		}
		slices.SortFunc(want, func(p, q api.Pair) int { return strings.Compare(p.Key, q.Key) })
		if !slices.Equal(d.All(), want) {
			t.Errorf("%s: %v, want %v", a.name, d.All(), want)
		}
	}
}
