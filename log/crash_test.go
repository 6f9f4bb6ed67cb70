package log_test

import (
	"math"
	"testing"

	"burgage/api"
	"burgage/log"
)

// kept gives a log with one list that is safe and one that is not.
func kept(t *testing.T) *log.Log {
	t.Helper()
	g := fresh(t, 40)
	wantAppend(t, g, kv, api.OK)
	wantSync(t, g, api.OK)
	wantAppend(t, g, lw, api.OK)
	wantKept(t, g, kvBytes+lwBytes, 7, kv, lw)
	return g
}

// TestL2HalfAppend has lists of even and odd bytes, of which half are there, but no list more.
func TestL2HalfAppend(t *testing.T) {
	for _, c := range []struct {
		l    list
		half string
	}{
		{nil, "\x00"},
		{list{{Key: "k", Gone: true}}, "\x00\x03"},
		{list{{Key: "k"}}, "\x00\x04\x01"},
		{lw, "\x00\x05\x01"},
		{list{{Key: "kk", Value: "v"}}, "\x00\x06\x01\x02"},
	} {
		g := kept(t)
		g.Fail(0)
		wantAppend(t, g, c.l, api.ErrDown)
		wantKept(t, g, kvBytes+lwBytes+c.half, 7, kv, lw)
	}
	g := fresh(t, 763)
	g.Fail(0)
	wantAppend(t, g, longest(), api.ErrDown)
	if n := len(g.Bytes()); n != 381 {
		t.Errorf("half of 763 bytes: %d", n)
	}
}

func TestL2HalfSync(t *testing.T) {
	g := kept(t)
	g.Fail(0)
	wantSync(t, g, api.ErrDown)
	wantKept(t, g, kvBytes+lwBytes, 7, kv, lw)
}

// TestL2PowerIsOff has nothing done any more until a crash, whatever Fail says.
func TestL2PowerIsOff(t *testing.T) {
	for _, n := range []int{math.MinInt, -1, 0, 1, 2, math.MaxInt} {
		g := kept(t)
		g.Fail(0)
		wantAppend(t, g, kv, api.ErrDown)
		g.Fail(n)
		for range 3 {
			wantAppend(t, g, kv, api.ErrDown)
			wantSync(t, g, api.ErrDown)
		}
		wantKept(t, g, kvBytes+lwBytes+kvBytes[:3], 7, kv, lw)
		g.Crash(0)
		wantAppend(t, g, nil, api.OK)
		wantSync(t, g, api.OK)
		wantKept(t, g, kvBytes+noneBytes, 10, kv, nil)
	}
}

// TestL2Off has it told that the power is off, from the step on in which it goes off until a crash.
func TestL2Off(t *testing.T) {
	for _, step := range []func(g *log.Log) error{
		func(g *log.Log) error { return g.Append(kv) },
		(*log.Log).Sync,
	} {
		g := kept(t)
		g.Fail(1)
		for i, want := range []bool{false, true, true} {
			if err := step(g); (err != nil) != want || g.Off() != want {
				t.Errorf("step %d: tells %v, off %v, want %v", i, err, g.Off(), want)
			}
		}
		g.Fail(-1)
		if !g.Off() {
			t.Errorf("Fail has the power on")
		}
		g.Crash(0)
		if g.Off() {
			t.Errorf("Crash leaves the power off")
		}
	}
}

// TestL2RoomOfHalves has the bytes of a list that was not done count, too.
func TestL2RoomOfHalves(t *testing.T) {
	g := fresh(t, 9)
	g.Fail(0)
	wantAppend(t, g, kv, api.ErrDown)
	wantAppend(t, g, kv, api.ErrFull)
	wantAppend(t, g, list{{Key: "k"}}, api.ErrDown)
	g.Crash(math.MaxInt)
	wantKept(t, g, "", 0)
	wantAppend(t, g, kv, api.OK)
}

// TestL2NthStep counts steps of both kinds, and none that is none.
func TestL2NthStep(t *testing.T) {
	for n := range 12 {
		for sync := range 2 {
			g := fresh(t, 40)
			g.Fail(n)
			want := ""
			for i := range n {
				wantAppend(t, g, list{{}}, api.ErrShape)
				wantAppend(t, g, tooMany(), api.ErrFull)
				wantAppend(t, g, longest(), api.ErrFull)
				if i%2 == sync {
					wantAppend(t, g, nil, api.OK)
					want += noneBytes
				} else {
					wantSync(t, g, api.OK)
				}
			}
			g.Read()
			g.Safe()
			wantAppend(t, g, kv, api.ErrDown)
			if got := string(g.Bytes()); got != want+kvBytes[:3] {
				t.Errorf("Fail of %d: %q, want %q and half a list", n, got, want)
			}
		}
	}
}

func TestL2NeverFails(t *testing.T) {
	for _, n := range []int{-1, -2, math.MinInt, math.MaxInt, 100} {
		g := fresh(t, 400)
		g.Fail(n)
		want := ""
		for range 50 {
			wantAppend(t, g, nil, api.OK)
			wantSync(t, g, api.OK)
			want += noneBytes
		}
		if got := string(g.Bytes()); got != want || g.Safe() != len(want) {
			t.Errorf("Fail of %d: %q, %d safe", n, got, g.Safe())
		}
	}
}

// TestL2FailTakesThePlace has a later Fail count from itself on.
func TestL2FailTakesThePlace(t *testing.T) {
	g := fresh(t, 40)
	g.Fail(0)
	g.Fail(1)
	wantAppend(t, g, kv, api.OK)
	g.Fail(1)
	wantSync(t, g, api.OK)
	g.Fail(-1)
	wantSync(t, g, api.OK)
	g.Fail(3)
	g.Fail(0)
	wantSync(t, g, api.ErrDown)
	wantKept(t, g, kvBytes, 7, kv)
}

// TestL2CrashForgetsFail has a Fail that was still to come forgotten, and one that came.
func TestL2CrashForgetsFail(t *testing.T) {
	for n := range 3 {
		g := kept(t)
		g.Fail(n)
		g.Crash(0)
		for range 5 {
			wantSync(t, g, api.OK)
		}
		g.Fail(0)
		wantSync(t, g, api.ErrDown)
		g.Crash(0)
		for range 5 {
			wantAppend(t, g, nil, api.OK)
		}
	}
}

// TestL2Crash has each number of bytes kept, with the power on, and with half a list at the end.
func TestL2Crash(t *testing.T) {
	for keep := -3; keep < 14; keep++ {
		whole, failed := kept(t), kept(t)
		failed.Fail(0)
		wantAppend(t, failed, kv, api.ErrDown)
		for _, g := range []*log.Log{whole, failed} {
			g.Crash(keep)
			if keep < len(lwBytes) {
				wantKept(t, g, kvBytes, 7, kv)
			} else {
				wantKept(t, g, kvBytes+lwBytes, 14, kv, lw)
			}
			was := string(g.Bytes())
			wantAppend(t, g, nil, api.OK)
			wantSync(t, g, api.OK)
			if got := string(g.Bytes()); got != was+noneBytes || g.Safe() != len(got) {
				t.Errorf("behind Crash of %d: %q, %d safe", keep, got, g.Safe())
			}
		}
	}
}

func TestL2CrashFarNumbers(t *testing.T) {
	for _, keep := range []int{math.MinInt, math.MinInt + 1, math.MaxInt, math.MaxInt - 1} {
		g := kept(t)
		g.Crash(keep)
		if keep < 0 {
			wantKept(t, g, kvBytes, 7, kv)
		} else {
			wantKept(t, g, kvBytes+lwBytes, 14, kv, lw)
		}
		h := fresh(t, 0)
		h.Crash(keep)
		wantKept(t, h, "", 0)
	}
}

// TestL2CrashAgain has what a crash left safe, so that the next one takes nothing.
func TestL2CrashAgain(t *testing.T) {
	g := kept(t)
	g.Crash(8)
	g.Crash(-1)
	wantKept(t, g, kvBytes+lwBytes, 14, kv, lw)
	g.Fail(0)
	wantAppend(t, g, kv, api.ErrDown)
	g.Crash(3)
	g.Crash(0)
	wantKept(t, g, kvBytes+lwBytes, 14, kv, lw)
}

// TestL2CrashGivesRoom has the room of what is gone given back.
func TestL2CrashGivesRoom(t *testing.T) {
	g := fresh(t, 14)
	wantAppend(t, g, kv, api.OK)
	wantSync(t, g, api.OK)
	wantAppend(t, g, kv, api.OK)
	wantAppend(t, g, lw, api.ErrFull)
	g.Crash(6)
	wantAppend(t, g, lw, api.OK)
	wantKept(t, g, kvBytes+lwBytes, 7, kv, lw)
}
