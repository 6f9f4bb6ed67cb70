package hall_test

import (
	"math"
	"reflect"
	"slices"
	"strings"
	"testing"

	"burgage/api"
	"burgage/hall"
	"burgage/plain"
)

// eight names, as many as may be open at once; the shortest and the longest are among them.
var eight = []string{"a", "b", "z", "ab", "ba", "joe", "abcdefgh", "zzzzzzzz"}

// wrongNames are of no session.
var wrongNames = []string{
	"", "abcdefghi", strings.Repeat("a", 300), "A", "aB", "a1", "1", "a b", " a", "a ", "a/", "n/a", "a-b",
	"`", "{", "a\x00", "\n", "a\n", "ä", "\xff", "a\xe1", "ａ",
}

// nothing is the answer to what answers nothing, and beside an error.
var nothing = api.Answer{}

// wide is a prefix of 16 addresses.
var wide = api.Prefix{Addr: 0, Len: 28}

// How many bytes of the log a net, a prefix and an address take, with a name and an owner of one letter.
const (
	netBytes    = 9
	prefixBytes = 20
	addrBytes   = 18
)

func net(name string) api.Call { return api.Call{What: api.Net, Name: name, Owner: "o"} }

func add(name string, p api.Prefix) api.Call {
	return api.Call{What: api.Add, Name: name, Prefix: p, Owner: "o"}
}

func place(name string, a int) api.Call {
	return api.Call{What: api.Place, Name: name, Addr: a, Owner: "o"}
}

func next(name string) api.Call {
	return api.Call{What: api.NextAddr, Name: name, Prefix: wide, Owner: "o"}
}

func list(name string) api.Call { return api.Call{What: api.List, Name: name} }

func fresh(t *testing.T, room int) *hall.Hall {
	t.Helper()
	h, err := hall.New(room)
	if h == nil || err != nil {
		t.Fatalf("New of %d: %v %v", room, h, err)
	}
	return h
}

// withNets gives a hall in which these nets are committed, each by itself.
func withNets(t *testing.T, room int, names ...string) *hall.Hall {
	t.Helper()
	h := fresh(t, room)
	for i, name := range names {
		wantOnce(t, h, net(name), nothing, i+1, api.OK)
	}
	return h
}

// withWide gives a hall in which two numbers are committed: of the net x, and of the prefix wide in it.
func withWide(t *testing.T, room int) *hall.Hall {
	t.Helper()
	h := withNets(t, room, "x")
	wantOnce(t, h, add("x", wide), nothing, 2, api.OK)
	return h
}

// powerOff has the power go off by a Flush.
func powerOff(t *testing.T, h *hall.Hall) {
	t.Helper()
	h.Fail(0)
	wantErr(t, "Flush", h.Flush(), api.ErrDown)
}

// same tells whether answers are the same; an empty list and nil are.
func same(a, b api.Answer) bool {
	if len(a.List) == 0 && len(b.List) == 0 {
		a.List, b.List = nil, nil
	}
	return reflect.DeepEqual(a, b)
}

func wantErr(t *testing.T, name string, err error, want api.Errno) {
	t.Helper()
	if plain.Told(err) != want {
		t.Errorf("%s: tells %v, want %v", name, err, want)
	}
}

func wantOpen(t *testing.T, h *hall.Hall, who string, told api.Errno) {
	t.Helper()
	if err := h.Open(who); plain.Told(err) != told {
		t.Errorf("Open of %q: tells %v, want %v", who, err, told)
	}
}

func wantQuit(t *testing.T, h *hall.Hall, who string, told api.Errno) {
	t.Helper()
	if err := h.Quit(who); plain.Told(err) != told {
		t.Errorf("Quit of %q: tells %v, want %v", who, err, told)
	}
}

func wantAsk(t *testing.T, h *hall.Hall, who string, c api.Call, want api.Answer, told api.Errno) {
	t.Helper()
	if got, err := h.Ask(who, c); !same(got, want) || plain.Told(err) != told {
		t.Errorf("Ask of %q, %+v: answers %+v %v, want %+v %v", who, c, got, err, want, told)
	}
}

func wantClose(t *testing.T, h *hall.Hall, who string, want int, told api.Errno) {
	t.Helper()
	if n, err := h.Close(who); n != want || plain.Told(err) != told {
		t.Errorf("Close of %q: answers %d %v, want %d %v", who, n, err, want, told)
	}
}

func wantOnce(t *testing.T, h *hall.Hall, c api.Call, want api.Answer, number int, told api.Errno) {
	t.Helper()
	got, n, err := h.Once(c)
	if !same(got, want) || n != number || plain.Told(err) != told {
		t.Errorf("Once of %+v: answers %+v %d %v, want %+v %d %v", c, got, n, err, want, number, told)
	}
}

func wantCount(t *testing.T, h *hall.Hall, want int) {
	t.Helper()
	if n := h.Count(); n != want {
		t.Errorf("Count: %d, want %d", n, want)
	}
}

func wantSafe(t *testing.T, h *hall.Hall, want int) {
	t.Helper()
	if n := h.Safe(); n != want {
		t.Errorf("Safe: %d, want %d", n, want)
	}
}

func wantNets(t *testing.T, h *hall.Hall, want ...string) {
	t.Helper()
	if got := h.Nets(); !slices.Equal(got, want) {
		t.Errorf("Nets: %q, want %q", got, want)
	}
}

// wantAll has what is committed as texts, each key with its value behind a =.
func wantAll(t *testing.T, h *hall.Hall, want ...string) {
	t.Helper()
	var got []string
	for _, p := range h.All() {
		got = append(got, p.Key+"="+p.Value)
	}
	if !slices.Equal(got, want) {
		t.Errorf("All: %q, want %q", got, want)
	}
}

func TestH1New(t *testing.T) {
	for _, room := range []int{0, 1, 3000, api.MaxRoom} {
		h := fresh(t, room)
		wantCount(t, h, 0)
		wantSafe(t, h, 0)
		wantNets(t, h)
		wantAll(t, h)
	}
	for _, room := range []int{-1, api.MaxRoom + 1, math.MinInt, math.MaxInt} {
		if h, err := hall.New(room); h != nil || plain.Told(err) != api.ErrRange {
			t.Errorf("New of %d: %v %v, want ErrRange", room, h, err)
		}
	}
}

// TestH1Room has the desk be of that room, to the byte.
func TestH1Room(t *testing.T) {
	for room := range 3*netBytes + 1 {
		h := fresh(t, room)
		for i, name := range []string{"a", "b", "c"} {
			if room >= (i+1)*netBytes {
				wantOnce(t, h, net(name), nothing, i+1, api.OK)
			} else {
				wantOnce(t, h, net(name), nothing, 0, api.ErrFull)
			}
		}
	}
}

func TestH1Open(t *testing.T) {
	h := fresh(t, 100)
	for i, who := range eight {
		wantCount(t, h, i)
		wantOpen(t, h, who, api.OK)
		wantOpen(t, h, who, api.ErrClash)
	}
	wantCount(t, h, 8)
	for _, who := range []string{"c", "y", "abc", "abcdefg"} {
		wantOpen(t, h, who, api.ErrFull)
	}
	wantCount(t, h, 8)
	for _, who := range eight {
		wantOpen(t, h, who, api.ErrClash)
		wantAsk(t, h, who, list("x"), nothing, api.ErrNone)
	}
	wantQuit(t, h, "z", api.OK)
	wantOpen(t, h, "c", api.OK)
	wantOpen(t, h, "z", api.ErrFull)
}

func TestH1OpenNoName(t *testing.T) {
	h := fresh(t, 100)
	for _, who := range wrongNames {
		wantOpen(t, h, who, api.ErrSyntax)
		wantAsk(t, h, who, net("x"), nothing, api.ErrNone)
		wantClose(t, h, who, 0, api.ErrNone)
		wantQuit(t, h, who, api.ErrNone)
	}
	wantCount(t, h, 0)
	for _, who := range eight {
		wantOpen(t, h, who, api.OK)
	}
}

// TestH1OpenOrder has each error of Open ahead of those that the chapter names behind it.
func TestH1OpenOrder(t *testing.T) {
	h := fresh(t, 100)
	for _, who := range eight[:7] {
		wantOpen(t, h, who, api.OK)
	}
	powerOff(t, h)
	wantOpen(t, h, "c", api.ErrDown)
	wantOpen(t, h, "a", api.ErrClash)
	wantOpen(t, h, "A", api.ErrSyntax)
	wantCount(t, h, 7)
	h.Crash(0)
	for _, who := range eight {
		wantOpen(t, h, who, api.OK)
	}
	powerOff(t, h)
	wantOpen(t, h, "c", api.ErrFull)
	wantOpen(t, h, "a", api.ErrClash)
	wantOpen(t, h, "A", api.ErrSyntax)
	wantCount(t, h, 8)
}

// TestH1Ask has each call in a session, one behind the other.
func TestH1Ask(t *testing.T) {
	h := fresh(t, 1000)
	wantOpen(t, h, "joe", api.OK)
	call := func(what, a int) api.Call {
		return api.Call{What: what, Name: "x", Prefix: wide, Len: 30, Addr: a, Owner: "p"}
	}
	part := api.Prefix{Addr: 0, Len: 30}
	for _, c := range []struct {
		c    api.Call
		want api.Answer
		told api.Errno
	}{
		{call(api.List, 0), nothing, api.ErrNone},
		{call(api.Net, 0), nothing, api.OK},
		{call(api.Net, 0), nothing, api.ErrClash},
		{call(api.List, 0), nothing, api.OK},
		{call(api.Add, 0), nothing, api.OK},
		{call(api.Add, 0), nothing, api.ErrClash},
		{call(api.NextAddr, 0), api.Answer{Addr: 1}, api.OK},
		{call(api.NextAddr, 0), api.Answer{Addr: 2}, api.OK},
		{call(api.NextPrefix, 0), api.Answer{Prefix: part}, api.OK},
		{call(api.Place, 9), nothing, api.OK},
		{call(api.Place, 9), nothing, api.ErrClash},
		{call(api.Place, 99), nothing, api.ErrState},
		{call(api.Leave, 1), nothing, api.OK},
		{call(api.Take, 0), nothing, api.ErrState},
		{call(api.List, 0), api.Answer{List: []api.Prefix{wide, part}}, api.OK},
		{call(api.Who, 9), api.Answer{Owner: "p"}, api.OK},
		{call(api.Who, 16), nothing, api.ErrNone},
		{call(0, 0), nothing, api.ErrRange},
		{call(api.Who+1, 0), nothing, api.ErrRange},
		{call(api.Who, -1), nothing, api.ErrRange},
		{api.Call{What: api.Net, Name: "X", Owner: "o"}, nothing, api.ErrSyntax},
		{api.Call{What: api.Net, Name: "y"}, nothing, api.ErrSyntax},
		{add("x", api.Prefix{Addr: 1, Len: 28}), nothing, api.ErrShape},
	} {
		wantAsk(t, h, "joe", c.c, c.want, c.told)
		wantCount(t, h, 1)
	}
	wantAll(t, h)
	wantClose(t, h, "joe", 1, api.OK)
	wantAll(t, h, "a/x/00000002=p", "a/x/00000009=p", "n/x=p", "p/x/0000000028=p", "p/x/0000000030=p")
}

// TestH1AskNotOpen has all calls, right and wrong ones, in sessions that are not open.
func TestH1AskNotOpen(t *testing.T) {
	h := withNets(t, 1000, "x")
	wantOpen(t, h, "b", api.OK)
	for _, who := range []string{"a", "ab", "x", "", "B", "b ", "\xff"} {
		for what := -1; what <= 11; what++ {
			for _, name := range []string{"x", "y", "", "X"} {
				for _, owner := range []string{"o", ""} {
					c := api.Call{What: what, Name: name, Owner: owner, Addr: what, Prefix: wide}
					wantAsk(t, h, who, c, nothing, api.ErrNone)
				}
			}
		}
	}
	wantCount(t, h, 1)
	wantOnce(t, h, net("y"), nothing, 2, api.OK)
	wantAll(t, h, "n/x=o", "n/y=o")
}

// TestH1AskRunsOut has the bounds of a transaction be those of a session, that stays open beyond them.
func TestH1AskRunsOut(t *testing.T) {
	h := fresh(t, 1000)
	wantOpen(t, h, "a", api.OK)
	wantOpen(t, h, "b", api.OK)
	for i := range api.MaxChanges {
		wantAsk(t, h, "a", net("n"+string(rune('a'+i))), nothing, api.OK)
	}
	wantAsk(t, h, "a", net("z"), nothing, api.ErrFull)
	wantAsk(t, h, "b", net("z"), nothing, api.OK)
	wantCount(t, h, 2)
	for range api.MaxReads - api.MaxChanges - 1 {
		wantAsk(t, h, "a", list("z"), nothing, api.ErrNone)
	}
	wantAsk(t, h, "a", list("z"), nothing, api.ErrFull)
	wantAsk(t, h, "b", list("z"), nothing, api.OK)
	wantCount(t, h, 2)
	wantClose(t, h, "b", 1, api.OK)
	wantClose(t, h, "a", 0, api.ErrClash)
	wantOpen(t, h, "a", api.OK)
	wantAsk(t, h, "a", list("z"), nothing, api.OK)
	wantClose(t, h, "a", 1, api.OK)
}

// TestH1EachItsOwn has what a session does unseen by the others until it is closed.
func TestH1EachItsOwn(t *testing.T) {
	h := fresh(t, 1000)
	wantOpen(t, h, "a", api.OK)
	wantOpen(t, h, "b", api.OK)
	wantAsk(t, h, "a", net("x"), nothing, api.OK)
	wantAsk(t, h, "a", list("x"), nothing, api.OK)
	wantAsk(t, h, "b", list("x"), nothing, api.ErrNone)
	wantOnce(t, h, list("x"), nothing, 0, api.ErrNone)
	wantNets(t, h)
	wantClose(t, h, "a", 1, api.OK)
	wantNets(t, h, "x")
	wantAsk(t, h, "b", list("x"), nothing, api.ErrNone)
	wantOnce(t, h, list("x"), nothing, 1, api.OK)
	wantOpen(t, h, "a", api.OK)
	wantAsk(t, h, "a", list("x"), nothing, api.OK)
	wantClose(t, h, "b", 0, api.ErrClash)
	wantClose(t, h, "a", 1, api.OK)
}

// TestH1Close has the number, and each error, with which the session is not open any more.
func TestH1Close(t *testing.T) {
	h := fresh(t, 3*netBytes)
	for i, name := range []string{"x", "y"} {
		wantClose(t, h, "a", 0, api.ErrNone)
		wantOpen(t, h, "a", api.OK)
		wantAsk(t, h, "a", net(name), nothing, api.OK)
		wantClose(t, h, "a", i+1, api.OK)
		wantCount(t, h, 0)
	}
	for _, who := range []string{"a", "b", "c", "d"} {
		wantOpen(t, h, who, api.OK)
		wantAsk(t, h, who, net("z"), nothing, api.OK)
	}
	wantAsk(t, h, "d", net("y"), nothing, api.ErrClash)
	wantAsk(t, h, "c", net("v"), nothing, api.OK)
	wantClose(t, h, "c", 0, api.ErrFull)
	wantClose(t, h, "c", 0, api.ErrNone)
	wantCount(t, h, 3)
	wantClose(t, h, "b", 3, api.OK)
	wantClose(t, h, "b", 0, api.ErrNone)
	wantClose(t, h, "a", 0, api.ErrClash)
	wantClose(t, h, "a", 0, api.ErrNone)
	wantCount(t, h, 1)
	wantQuit(t, h, "d", api.OK)
	wantNets(t, h, "x", "y", "z")
	// All four are over: as many as may be can be open again.
	for _, who := range eight {
		wantOpen(t, h, who, api.OK)
	}
}

// TestH1CloseChangedNothing has the number of what the session saw.
func TestH1CloseChangedNothing(t *testing.T) {
	h := fresh(t, 100)
	wantOpen(t, h, "a", api.OK)
	wantClose(t, h, "a", 0, api.OK)
	wantOpen(t, h, "a", api.OK)
	wantOnce(t, h, net("x"), nothing, 1, api.OK)
	wantOpen(t, h, "b", api.OK)
	wantAsk(t, h, "b", list("x"), nothing, api.OK)
	wantOnce(t, h, net("y"), nothing, 2, api.OK)
	wantClose(t, h, "a", 0, api.OK)
	wantClose(t, h, "b", 1, api.OK)
	wantCount(t, h, 0)
}

func TestH1CloseWithoutPower(t *testing.T) {
	h := withNets(t, 100, "x")
	for _, who := range []string{"a", "b", "c"} {
		wantOpen(t, h, who, api.OK)
		wantAsk(t, h, who, list("x"), nothing, api.OK)
	}
	wantAsk(t, h, "a", net("y"), nothing, api.OK)
	wantAsk(t, h, "b", net("z"), nothing, api.OK)
	h.Fail(0)
	wantClose(t, h, "a", 0, api.ErrDown)
	wantClose(t, h, "a", 0, api.ErrNone)
	wantClose(t, h, "b", 0, api.ErrDown)
	wantCount(t, h, 1)
	wantAsk(t, h, "c", list("x"), nothing, api.OK)
	wantClose(t, h, "c", 1, api.OK)
	wantCount(t, h, 0)
	wantNets(t, h, "x")
}

func TestH1Quit(t *testing.T) {
	h := fresh(t, 100)
	wantQuit(t, h, "a", api.ErrNone)
	for range 20 {
		wantOpen(t, h, "a", api.OK)
		wantOpen(t, h, "b", api.OK)
		wantAsk(t, h, "a", net("x"), nothing, api.OK)
		wantCount(t, h, 2)
		wantQuit(t, h, "a", api.OK)
		wantCount(t, h, 1)
		wantQuit(t, h, "a", api.ErrNone)
		wantAsk(t, h, "a", net("x"), nothing, api.ErrNone)
		wantClose(t, h, "a", 0, api.ErrNone)
		wantAsk(t, h, "b", list("x"), nothing, api.ErrNone)
		wantClose(t, h, "b", 0, api.OK)
		wantNets(t, h)
	}
	wantOpen(t, h, "a", api.OK)
	wantAsk(t, h, "a", list("x"), nothing, api.ErrNone)
	powerOff(t, h)
	wantQuit(t, h, "a", api.OK)
	wantCount(t, h, 0)
}

// TestH1NetsRise has names that begin with one another, and of nets that have prefixes and addresses.
func TestH1NetsRise(t *testing.T) {
	h := withNets(t, 1000, "zz", "b", "ab", "abcdefgh", "z", "a", "p", "n", "aa", "ba")
	for i, name := range []string{"p", "n", "a"} {
		wantOnce(t, h, add(name, wide), nothing, 11+3*i, api.OK)
		wantOnce(t, h, place(name, 3), nothing, 12+3*i, api.OK)
		wantOnce(t, h, next(name), api.Answer{Addr: 1}, 13+3*i, api.OK)
	}
	wantOpen(t, h, "a", api.OK)
	wantAsk(t, h, "a", net("c"), nothing, api.OK)
	wantNets(t, h, "a", "aa", "ab", "abcdefgh", "b", "ba", "n", "p", "z", "zz")
	wantClose(t, h, "a", 20, api.OK)
	wantNets(t, h, "a", "aa", "ab", "abcdefgh", "b", "ba", "c", "n", "p", "z", "zz")
}

// TestH1FreshMemory writes into all lists that come out.
func TestH1FreshMemory(t *testing.T) {
	h := withNets(t, 1000, "x", "y")
	wantOnce(t, h, add("x", wide), nothing, 3, api.OK)
	wantOpen(t, h, "a", api.OK)
	for range 3 {
		clear(h.Nets())
		clear(h.All())
		answer, _ := h.Ask("a", list("x"))
		clear(answer.List)
		answer, _, _ = h.Once(list("x"))
		clear(answer.List)
		wantNets(t, h, "x", "y")
		wantAll(t, h, "n/x=o", "n/y=o", "p/x/0000000028=o")
		wantAsk(t, h, "a", list("x"), api.Answer{List: []api.Prefix{wide}}, api.OK)
		wantOnce(t, h, list("x"), api.Answer{List: []api.Prefix{wide}}, 3, api.OK)
	}
}

// TestH1HallsApart has two halls that know nothing of one another.
func TestH1HallsApart(t *testing.T) {
	one, other := withNets(t, 100, "x"), fresh(t, 100)
	wantOpen(t, one, "a", api.OK)
	wantCount(t, other, 0)
	wantNets(t, other)
	wantOpen(t, other, "a", api.OK)
	other.Crash(0)
	powerOff(t, other)
	wantCount(t, one, 1)
	wantAsk(t, one, "a", net("y"), nothing, api.OK)
	wantClose(t, one, "a", 2, api.OK)
}
