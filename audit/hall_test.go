package audit_test

import (
	"math/rand"
	"slices"
	"strings"
	"testing"

	"burgage/api"
	"burgage/audit"
	"burgage/hall"
	"burgage/plain"
)

func fresh(t *testing.T, room int) *hall.Hall {
	t.Helper()
	h, err := hall.New(room)
	if err != nil {
		t.Fatal(err)
	}
	return h
}

// wantInOrder holds what is committed to being in order, and each list of prefixes, and each use of one, to being told.
func wantInOrder(t *testing.T, h *hall.Hall) {
	t.Helper()
	l := h.All()
	wantCheck(t, l, 0, api.OK)
	for _, net := range h.Nets() {
		prefixes, err := audit.Prefixes(l, net)
		if err != nil {
			t.Errorf("Prefixes of %q, %q: %v", l, net, err)
		}
		for _, p := range prefixes {
			if _, _, err := audit.Use(l, net, p); err != nil {
				t.Errorf("Use of %q, %q, %v: %v", l, net, p, err)
			}
		}
	}
}

// stock has calls done one behind the other, each by itself.
func stock(t *testing.T, h *hall.Hall, calls ...api.Call) {
	t.Helper()
	for _, c := range calls {
		if _, _, err := h.Once(c); err != nil {
			t.Fatalf("Once of %+v: %v", c, err)
		}
	}
}

func call(what int, net string, a int, p api.Prefix, n int) api.Call {
	return api.Call{What: what, Name: net, Addr: a, Prefix: p, Len: n, Owner: "o"}
}

// TestU2TwoAtOnce has each two calls of one session and each two of another one at once, closed in both orders, where
// there is one prefix alone, and where there is another one in it, and an address in both.
func TestU2TwoAtOnce(t *testing.T) {
	none := api.Prefix{}
	calls := []api.Call{
		call(api.Take, "x", 0, pre(0, 28), 0), call(api.Take, "x", 0, pre(0, 29), 0), call(api.Add, "x", 0, pre(0, 30), 0),
		call(api.Add, "x", 0, pre(0, 27), 0), call(api.Place, "x", 2, none, 0), call(api.Place, "x", 9, none, 0),
		call(api.Leave, "x", 1, none, 0), call(api.NextAddr, "x", 0, pre(0, 28), 0), call(api.NextPrefix, "x", 0, pre(0, 28), 29),
		call(api.Net, "y", 0, none, 0), call(api.Add, "y", 0, pre(0, 28), 0), call(api.Place, "y", 2, none, 0),
	}
	there := []api.Call{
		call(api.Net, "x", 0, none, 0), call(api.Add, "x", 0, pre(0, 28), 0), call(api.Add, "x", 0, pre(0, 29), 0),
		call(api.Place, "x", 1, none, 0),
	}
	n := len(calls)
	taken, clashes := 0, 0
	for row := range n * n * n * n {
		for way := range 4 {
			turned := way % 2
			h := fresh(t, api.MaxRoom)
			stock(t, h, there[:2+way/2*2]...)
			who := []string{"a", "b"}
			h.Open(who[0])
			h.Open(who[1])
			for i, pick := range []int{row % n, row / n % n, row / n / n % n, row / n / n / n} {
				h.Ask(who[i%2], calls[pick])
			}
			for i := range who {
				switch _, err := h.Close(who[i^turned]); plain.Told(err) {
				case api.OK:
					taken++
				case api.ErrClash:
					clashes++
				default:
					t.Errorf("Close: %v", err)
				}
				wantCheck(t, h.All(), 0, api.OK)
			}
			if t.Failed() {
				t.Fatalf("row %d, way %d", row, way)
			}
		}
	}
	if taken < 20000 || clashes < 10000 {
		t.Errorf("only %d committed and %d clashes", taken, clashes)
	}
}

// someCall, mostly with nothing wrong, in a world so small that calls often meet; of what is committed, every other time.
func someCall(r *rand.Rand, h *hall.Hall) api.Call {
	if r.Intn(15) == 0 {
		return api.Call{
			What: r.Intn(12) - 1, Name: one(r, append(wrongNames, "x", "y")), Addr: one(r, []int{-1, 3, 1 << 32}),
			Prefix: one(r, append(wrongPrefixes, pre(0, 28))), Len: r.Intn(40) - 3, Owner: one(r, append(wrongNames, "o", "p")),
		}
	}
	n := 27 + r.Intn(6)
	c := call(one(r, []int{1, 2, 2, 2, 3, 3, 3, 4, 4, 5, 5, 6, 7, 7, 8, 9}), one(r, []string{"x", "x", "x", "xa", "y"}), r.Intn(40),
		cutTo(r.Intn(32), n), n+r.Intn(4)-1)
	c.Owner = one(r, []string{"joe", "sue", "k", "abcdefgh"})
	if l := h.All(); len(l) > 0 && r.Intn(2) == 0 {
		s, _ := hear(one(r, l).Key)
		c.Name, c.Addr = s.net, s.low
		if s.kind == 'p' {
			c.Prefix = s.prefix()
			c.Addr += r.Intn(s.high - s.low + 1)
		}
	}
	return c
}

// act does something with a hall, and tells what came of it.
func act(r *rand.Rand, h *hall.Hall) (string, error) {
	who := one(r, []string{"a", "b", "c", "d", "e", "f", "g", "h", "i", "A", ""})
	switch n := r.Intn(200); {
	case n < 40:
		return "open", h.Open(who)
	case n < 110:
		c := someCall(r, h)
		_, err := h.Ask(who, c)
		return "ask " + kindOf(c), err
	case n < 140:
		_, err := h.Close(who)
		return "close", err
	case n < 144:
		return "quit", h.Quit(who)
	case n < 188:
		c := someCall(r, h)
		_, _, err := h.Once(c)
		return "once " + kindOf(c), err
	case n < 196:
		return "flush", h.Flush()
	case n < 198:
		h.Fail(r.Intn(30) - 1)
		return "fail", nil
	}
	h.Crash(r.Intn(120) - 3)
	return "crash", nil
}

func kindOf(c api.Call) string {
	if c.What < api.Net || c.What > api.Who {
		return "none"
	}
	return strings.Fields("net add take place leave nextprefix nextaddr list who")[c.What-1]
}

// TestU2WhateverIsAsked has many at once do all that can be done, with the power going off now and then, and looks behind
// each step.
func TestU2WhateverIsAsked(t *testing.T) {
	done := map[string]int{}
	keys := 0
	for seed := range int64(200) {
		r := rand.New(rand.NewSource(seed))
		h := fresh(t, one(r, []int{50, 500, 3000, api.MaxRoom, api.MaxRoom}))
		for i := range 600 {
			what, err := act(r, h)
			done[what+" "+plain.Told(err).Error()]++
			wantInOrder(t, h)
			if t.Failed() {
				t.Fatalf("seed %d, step %d: %s", seed, i, what)
			}
		}
		keys += len(h.All())
	}
	for _, what := range strings.Split("open OK,close OK,close ErrClash,close ErrFull,close ErrDown,quit OK,flush OK,flush ErrDown,"+
		"crash OK,once net OK,once add OK,once take OK,once take ErrState,once place OK,once place ErrState,once leave OK,"+
		"once nextprefix OK,once nextaddr OK,ask net OK,ask add OK,ask take OK,ask take ErrState,ask place OK,ask place ErrState,"+
		"ask leave OK,ask nextprefix OK,ask nextaddr OK", ",") {
		if done[what] < 20 {
			t.Errorf("%s came %d times", what, done[what])
		}
	}
	if keys < 1000 {
		t.Errorf("only %d keys were left", keys)
	}
}

// TestU2EachCrash has a crash behind a row of commits keep each number of bytes.
func TestU2EachCrash(t *testing.T) {
	none := api.Prefix{}
	calls := []api.Call{
		call(api.Net, "x", 0, none, 0), call(api.Add, "x", 0, pre(0, 28), 0), call(api.NextAddr, "x", 0, pre(0, 28), 0),
		call(api.NextPrefix, "x", 0, pre(0, 28), 30), call(api.Place, "x", 9, none, 0), call(api.Take, "x", 0, pre(0, 30), 0),
		call(api.Leave, "x", 1, none, 0), call(api.Leave, "x", 9, none, 0), call(api.Take, "x", 0, pre(0, 28), 0),
	}
	var sizes []int
	for keep := range 200 {
		for flushed := range len(calls) {
			h := fresh(t, api.MaxRoom)
			stock(t, h, calls[:flushed]...)
			h.Flush()
			stock(t, h, calls[flushed:]...)
			h.Crash(keep)
			wantInOrder(t, h)
			sizes = append(sizes, len(h.All()))
		}
	}
	if slices.Max(sizes) != 5 || slices.Min(sizes) != 0 {
		t.Errorf("%d to %d keys were left", slices.Min(sizes), slices.Max(sizes))
	}
}

// TestU2GivenAway has all addresses and all prefixes of a net given away by many at once, and counts them.
func TestU2GivenAway(t *testing.T) {
	h := fresh(t, api.MaxRoom)
	wide := pre(0, 26)
	stock(t, h, call(api.Net, "x", 0, wide, 0), call(api.Add, "x", 0, wide, 0))
	calls := []api.Call{call(api.NextAddr, "x", 0, wide, 0), call(api.NextPrefix, "x", 0, wide, 31)}
	for round := 0; round < 200; round++ {
		for _, who := range []string{"a", "b", "c"} {
			h.Open(who)
			h.Ask(who, calls[round%2])
		}
		for _, who := range []string{"c", "a", "b"} {
			h.Close(who)
			wantCheck(t, h.All(), 0, api.OK)
		}
	}
	l := h.All()
	wantUse(t, l, "x", wide, 62, 62, api.OK)
	if prefixes, err := audit.Prefixes(l, "x"); len(prefixes) != 1+32 || err != nil {
		t.Errorf("Prefixes: %v %v", prefixes, err)
	}
	if len(l) != 1+1+32+62 {
		t.Errorf("%d keys are there", len(l))
	}
}
