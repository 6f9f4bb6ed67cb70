package hall_test

import (
	"testing"

	"burgage/api"
)

func TestH1Once(t *testing.T) {
	h := fresh(t, 1000)
	wantOnce(t, h, list("x"), nothing, 0, api.ErrNone)
	wantOnce(t, h, net("x"), nothing, 1, api.OK)
	wantOnce(t, h, list("x"), nothing, 1, api.OK)
	wantOnce(t, h, add("x", wide), nothing, 2, api.OK)
	wantOnce(t, h, next("x"), api.Answer{Addr: 1}, 3, api.OK)
	wantOnce(t, h, next("x"), api.Answer{Addr: 2}, 4, api.OK)
	part := api.Prefix{Addr: 0, Len: 30}
	wantOnce(t, h, api.Call{What: api.NextPrefix, Name: "x", Prefix: wide, Len: 30, Owner: "sue"}, api.Answer{Prefix: part}, 5, api.OK)
	wantOnce(t, h, list("x"), api.Answer{List: []api.Prefix{wide, part}}, 5, api.OK)
	wantOnce(t, h, api.Call{What: api.Who, Name: "x", Addr: 3}, api.Answer{Owner: "sue"}, 5, api.OK)
	wantOnce(t, h, api.Call{What: api.Leave, Name: "x", Addr: 1}, nothing, 6, api.OK)
	wantCount(t, h, 0)
	wantNets(t, h, "x")
	wantAll(t, h, "a/x/00000002=o", "n/x=o", "p/x/0000000028=o", "p/x/0000000030=sue")
}

// TestH1OnceRefused has calls that Do says an error of: their transactions are over, and took no number.
func TestH1OnceRefused(t *testing.T) {
	h := withNets(t, 1000, "x")
	for range 3 {
		wantOnce(t, h, net("x"), nothing, 0, api.ErrClash)
		wantOnce(t, h, net("X"), nothing, 0, api.ErrSyntax)
		wantOnce(t, h, api.Call{What: api.Net, Name: "y"}, nothing, 0, api.ErrSyntax)
		wantOnce(t, h, api.Call{}, nothing, 0, api.ErrRange)
		wantOnce(t, h, api.Call{What: 10, Name: "x"}, nothing, 0, api.ErrRange)
		wantOnce(t, h, place("x", -1), nothing, 0, api.ErrRange)
		wantOnce(t, h, place("x", 1), nothing, 0, api.ErrState)
		wantOnce(t, h, add("x", api.Prefix{Addr: 1, Len: 31}), nothing, 0, api.ErrShape)
		wantOnce(t, h, next("x"), nothing, 0, api.ErrNone)
		wantOnce(t, h, list("y"), nothing, 0, api.ErrNone)
	}
	for _, who := range eight {
		wantOpen(t, h, who, api.OK)
	}
	wantQuit(t, h, "a", api.OK)
	wantOnce(t, h, net("y"), nothing, 2, api.OK)
	wantAll(t, h, "n/x=o", "n/y=o")
}

// TestH1OnceBegins has a transaction begun ahead of all that Do could say.
func TestH1OnceBegins(t *testing.T) {
	h := withNets(t, 1000, "x")
	calls := []api.Call{net("y"), net("x"), net("X"), list("x"), list("y"), {}, place("x", -1)}
	for i, who := range eight {
		if _, n, err := h.Once(list("x")); n != 1 || err != nil {
			t.Errorf("Once with %d open: %d %v", i, n, err)
		}
		wantOpen(t, h, who, api.OK)
	}
	for _, c := range calls {
		wantOnce(t, h, c, nothing, 0, api.ErrFull)
	}
	powerOff(t, h)
	for _, c := range calls {
		wantOnce(t, h, c, nothing, 0, api.ErrFull)
	}
	wantCount(t, h, 8)
	wantQuit(t, h, "a", api.OK)
	for _, c := range calls {
		wantOnce(t, h, c, nothing, 0, api.ErrDown)
	}
	wantCount(t, h, 7)
	wantNets(t, h, "x")
}

// TestH1OnceNotCommitted has what Do answered, and could not be committed, not answered.
func TestH1OnceNotCommitted(t *testing.T) {
	h := withWide(t, 1000)
	h.Fail(0)
	wantOnce(t, h, next("x"), nothing, 0, api.ErrDown)
	h.Crash(1000)
	wantOnce(t, h, next("x"), api.Answer{Addr: 1}, 3, api.OK)

	h = withWide(t, netBytes+prefixBytes+addrBytes)
	wantOnce(t, h, next("x"), api.Answer{Addr: 1}, 3, api.OK)
	// More often than there may be open ones.
	for range 20 {
		wantOnce(t, h, next("x"), nothing, 0, api.ErrFull)
	}
	wantOnce(t, h, list("x"), api.Answer{List: []api.Prefix{wide}}, 3, api.OK)
	wantAll(t, h, "a/x/00000001=o", "n/x=o", "p/x/0000000028=o")
}

// TestH1OnceAmongSessions has it seen by those that begin behind it alone, and the others clash with it.
func TestH1OnceAmongSessions(t *testing.T) {
	h := withWide(t, 1000)
	wantOpen(t, h, "a", api.OK)
	wantOpen(t, h, "b", api.OK)
	wantAsk(t, h, "a", next("x"), api.Answer{Addr: 1}, api.OK)
	wantAsk(t, h, "b", net("y"), nothing, api.OK)
	wantOnce(t, h, next("x"), api.Answer{Addr: 1}, 3, api.OK)
	wantOpen(t, h, "c", api.OK)
	wantAsk(t, h, "a", next("x"), api.Answer{Addr: 2}, api.OK)
	wantAsk(t, h, "c", next("x"), api.Answer{Addr: 2}, api.OK)
	wantCount(t, h, 3)
	wantClose(t, h, "a", 0, api.ErrClash)
	wantClose(t, h, "b", 4, api.OK)
	wantClose(t, h, "c", 5, api.OK)
	wantAll(t, h, "a/x/00000001=o", "a/x/00000002=o", "n/x=o", "n/y=o", "p/x/0000000028=o")
}
