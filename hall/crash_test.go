package hall_test

import (
	"math"
	"slices"
	"testing"

	"burgage/api"
	"burgage/hall"
)

func TestH1Flush(t *testing.T) {
	h := fresh(t, 1000)
	wantErr(t, "Flush of nothing", h.Flush(), api.OK)
	wantSafe(t, h, 0)
	for i, name := range []string{"x", "y", "z"} {
		wantOpen(t, h, "a", api.OK)
		wantAsk(t, h, "a", net(name), nothing, api.OK)
		wantErr(t, "Flush", h.Flush(), api.OK)
		wantSafe(t, h, i)
		wantClose(t, h, "a", i+1, api.OK)
		wantSafe(t, h, i)
		wantErr(t, "Flush", h.Flush(), api.OK)
		wantSafe(t, h, i+1)
	}
	h.Fail(0)
	wantOnce(t, h, list("x"), nothing, 3, api.OK)
	wantErr(t, "Flush", h.Flush(), api.ErrDown)
	wantErr(t, "Flush", h.Flush(), api.ErrDown)
	wantSafe(t, h, 3)
}

// TestH1Fail has the power go off in each step of some, of commits that changed something and flushes alone.
func TestH1Fail(t *testing.T) {
	for n := range 6 {
		h := fresh(t, 1000)
		h.Fail(3)
		h.Fail(n)
		for i := range n + 2 {
			told := api.OK
			if i >= n {
				told = api.ErrDown
			}
			wantErr(t, "a step", step(h, i), told)
		}
		wantSafe(t, h, n/3*2)
		if got, want := len(h.Nets()), n-n/3; got != want {
			t.Errorf("Fail of %d: %d nets, want %d", n, got, want)
		}
	}
	for _, n := range []int{-1, math.MinInt, math.MaxInt} {
		h := fresh(t, 1000)
		h.Fail(0)
		h.Fail(n)
		for i := range 9 {
			wantErr(t, "a step", step(h, i), api.OK)
		}
	}
}

// step is a commit of a session, a commit by itself, or a flush, beside others that take no step.
func step(h *hall.Hall, i int) error {
	h.Once(list("a"))
	h.Once(net("A"))
	if h.Open("q") == nil {
		h.Ask("q", net("q"))
		h.Quit("q")
	}
	name := string(rune('a' + i))
	switch i % 3 {
	case 0:
		if err := h.Open("s"); err != nil {
			return err
		}
		h.Ask("s", net(name))
		_, err := h.Close("s")
		return err
	case 1:
		_, _, err := h.Once(net(name))
		return err
	}
	return h.Flush()
}

// TestH1Crash has each number of bytes kept: as many commits are left as have all of theirs.
func TestH1Crash(t *testing.T) {
	keeps := []int{math.MinInt, math.MaxInt}
	for keep := -2; keep < 3*netBytes; keep++ {
		keeps = append(keeps, keep)
	}
	for _, keep := range keeps {
		h := withNets(t, 1000, "c")
		wantErr(t, "Flush", h.Flush(), api.OK)
		wantOnce(t, h, net("b"), nothing, 2, api.OK)
		wantOnce(t, h, net("a"), nothing, 3, api.OK)
		wantOpen(t, h, "a", api.OK)
		wantAsk(t, h, "a", net("d"), nothing, api.OK)
		h.Crash(keep)
		left := 1 + min(max(keep, 0)/netBytes, 2)
		names := []string{"c", "b", "a"}[:left]
		slices.Sort(names)
		for range 2 {
			wantCount(t, h, 0)
			wantSafe(t, h, left)
			wantNets(t, h, names...)
			h.Crash(0)
		}
		wantOnce(t, h, net("d"), nothing, left+1, api.OK)
		wantSafe(t, h, left)
	}
}

// TestH1CrashEndsAll has no session open any more, by each call, and all of them can be opened anew.
func TestH1CrashEndsAll(t *testing.T) {
	h := withNets(t, 1000, "x")
	for range 3 {
		for _, who := range eight {
			wantOpen(t, h, who, api.OK)
			wantAsk(t, h, who, net("y"), nothing, api.OK)
		}
		h.Crash(1000)
		wantCount(t, h, 0)
		for _, who := range eight {
			wantAsk(t, h, who, list("x"), nothing, api.ErrNone)
			wantClose(t, h, who, 0, api.ErrNone)
			wantQuit(t, h, who, api.ErrNone)
		}
		wantNets(t, h, "x")
	}
	wantOpen(t, h, "a", api.OK)
	wantAsk(t, h, "a", list("y"), nothing, api.ErrNone)
	wantAsk(t, h, "a", list("x"), nothing, api.OK)
	wantClose(t, h, "a", 1, api.OK)
}

// TestH1CrashForgetsFail has the power on behind it, whether it was off or still to go.
func TestH1CrashForgetsFail(t *testing.T) {
	for n := range 3 {
		h := withNets(t, 1000, "x")
		wantErr(t, "Flush", h.Flush(), api.OK)
		h.Fail(n)
		if n == 1 {
			h.Flush()
			wantErr(t, "Flush", h.Flush(), api.ErrDown)
			wantOpen(t, h, "a", api.ErrDown)
		}
		h.Crash(0)
		for i := range 6 {
			wantErr(t, "a step", step(h, i), api.OK)
		}
	}
}

// TestH1CommitHalfDone has a commit in which the power goes off told to none, however much is kept.
func TestH1CommitHalfDone(t *testing.T) {
	for _, keep := range []int{0, netBytes, 2 * netBytes, 1000} {
		h := withNets(t, 1000, "x")
		wantOpen(t, h, "a", api.OK)
		wantAsk(t, h, "a", net("y"), nothing, api.OK)
		h.Fail(0)
		wantClose(t, h, "a", 0, api.ErrDown)
		wantNets(t, h, "x")
		wantCount(t, h, 0)
		h.Crash(keep)
		if keep == 0 {
			wantNets(t, h)
		} else {
			wantNets(t, h, "x")
		}
	}
}
