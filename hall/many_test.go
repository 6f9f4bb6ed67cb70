package hall_test

import (
	"cmp"
	"fmt"
	"math/rand"
	"slices"
	"strings"
	"testing"

	"burgage/api"
	"burgage/hall"
	"burgage/plain"
	"burgage/plot"
)

// story is all that one session, or one call by itself, asked and was told, and the number that it was committed with.
type story struct {
	// who is empty of a call by itself.
	who    string
	number int
	// reads is 0 where it changed something, else 1.
	reads int
	calls []api.Call
	told  []string
}

func (s *story) hear(c api.Call, answer api.Answer, err error) {
	if err == nil && c.What != api.List && c.What != api.Who {
		s.reads = 0
	}
	s.calls, s.told = append(s.calls, c), append(s.told, say(err, answer))
}

// again has all that was asked asked alone, and gives what was told then, and the number.
func (s *story) again(h *hall.Hall) (told []string, number int, err error) {
	if s.who == "" {
		answer, number, err := h.Once(s.calls[0])
		return []string{say(err, answer)}, number, err
	}
	if err := h.Open(s.who); err != nil {
		return nil, 0, err
	}
	for _, c := range s.calls {
		answer, err := h.Ask(s.who, c)
		told = append(told, say(err, answer))
	}
	number, err = h.Close(s.who)
	return told, number, err
}

// mixed has many sessions, and calls by themselves among them, at once, and gives the stories of those that were
// committed.
func mixed(t *testing.T, r *rand.Rand, h *hall.Hall) (done []*story, clashes int) {
	t.Helper()
	open := map[string]*story{}
	for range 500 {
		who, c := pick(r, eight), someCall(r)
		s := open[who]
		switch {
		case s == nil && r.Intn(2) == 0:
			// This one of the eight is not open, so that there is room for it, or for a call by itself.
			wantOpen(t, h, who, api.OK)
			open[who] = &story{who: who, reads: 1}
		case s == nil:
			s = &story{reads: 1}
			answer, n, err := h.Once(c)
			if s.hear(c, answer, err); err == nil {
				s.number = n
				done = append(done, s)
			}
		case r.Intn(20) == 0:
			wantQuit(t, h, who, api.OK)
			delete(open, who)
		case r.Intn(3) > 0:
			answer, err := h.Ask(who, c)
			s.hear(c, answer, err)
		default:
			delete(open, who)
			n, err := h.Close(who)
			switch plain.Told(err) {
			case api.OK:
				s.number = n
				done = append(done, s)
			case api.ErrClash:
				clashes++
			default:
				t.Fatalf("Close: %v", err)
			}
		}
	}
	return done, clashes
}

// TestH1OneBehindTheOther asks all that was committed again, one alone behind the other, by their numbers.
func TestH1OneBehindTheOther(t *testing.T) {
	commits, clashes := 0, 0
	for seed := range int64(150) {
		h := fresh(t, api.MaxRoom)
		done, n := mixed(t, rand.New(rand.NewSource(seed)), h)
		commits, clashes = commits+len(done), clashes+n
		// One that changed something made what those that changed nothing, and have the same number, saw.
		slices.SortStableFunc(done, func(s, q *story) int {
			return cmp.Or(cmp.Compare(s.number, q.number), cmp.Compare(s.reads, q.reads))
		})
		alone := fresh(t, api.MaxRoom)
		for _, s := range done {
			told, number, err := s.again(alone)
			if err != nil || number != s.number || !slices.Equal(told, s.told) {
				t.Fatalf("seed %d, %q, %+v: told %q %d, alone %q %d %v", seed, s.who, s.calls, s.told, s.number, told, number, err)
			}
		}
		if !slices.Equal(alone.All(), h.All()) {
			t.Fatalf("seed %d: %v, alone %v", seed, h.All(), alone.All())
		}
		wantOrder(t, h)
	}
	if commits < 1000 || clashes < 1000 {
		t.Errorf("only %d committed and %d clashes", commits, clashes)
	}
}

// wantOrder holds each address to having a prefix, and each prefix to having a net.
func wantOrder(t *testing.T, h *hall.Hall) {
	t.Helper()
	lots := map[string][]api.Prefix{}
	for _, p := range slices.Backward(h.All()) {
		// Keys of prefixes and nets stand behind those of addresses.
		name := strings.Split(p.Key, "/")[1]
		switch p.Key[0] {
		case 'p':
			_, q, err := plot.ReadPrefix(p.Key)
			if err != nil || !slices.Contains(h.Nets(), name) {
				t.Errorf("%q has no net", p.Key)
			}
			lots[name] = append(lots[name], q)
		case 'a':
			var a int
			fmt.Sscanf(p.Key[len("a//")+len(name):], "%x", &a)
			if !slices.ContainsFunc(lots[name], func(q api.Prefix) bool { return (a^q.Addr)>>(32-q.Len) == 0 }) {
				t.Errorf("%q has no prefix", p.Key)
			}
		}
	}
}

// TestH1NothingTwice has as many as may be ask for the next of a prefix at once: only the first one that closes gets
// it, and each one that does not asks again by itself.
func TestH1NothingTwice(t *testing.T) {
	big := api.Prefix{Addr: 0, Len: 25}
	for _, c := range []api.Call{
		{What: api.NextAddr, Name: "x", Prefix: big, Owner: "p"},
		{What: api.NextPrefix, Name: "x", Prefix: big, Len: 32, Owner: "p"},
	} {
		h := withNets(t, api.MaxRoom, "x")
		wantOnce(t, h, add("x", big), nothing, 2, api.OK)
		given := map[string]int{}
		for range 5 {
			for _, who := range eight {
				wantOpen(t, h, who, api.OK)
			}
			for _, who := range eight {
				answer, err := h.Ask(who, c)
				wantErr(t, "Ask", err, api.OK)
				if who == eight[0] {
					given[fmt.Sprint(answer)]++
				}
			}
			for i, who := range eight {
				if _, err := h.Close(who); (err == nil) != (i == 0) {
					t.Fatalf("Close of the %dth: %v", i, err)
				}
			}
			for range eight[1:] {
				answer, _, err := h.Once(c)
				wantErr(t, "Once", err, api.OK)
				given[fmt.Sprint(answer)]++
			}
		}
		if len(given) != 40 || len(h.All()) != 42 {
			t.Errorf("What %d: %d were given of 40, and %d keys are there", c.What, len(given), len(h.All()))
		}
	}
}

// TestH1SafeIsNotForgotten crashes again and again: all is as behind some commit, none ahead of one that was safe.
func TestH1SafeIsNotForgotten(t *testing.T) {
	for seed := range int64(200) {
		r := rand.New(rand.NewSource(seed))
		h := fresh(t, 5000)
		behind := [][]api.Pair{nil}
		top := 0
		for range 8 {
			h.Fail(r.Intn(12))
			for range 12 {
				h.Flush()
				for range r.Intn(6) {
					if _, n, err := h.Once(someCall(r)); err == nil && n > top {
						top = n
						behind = append(behind[:n:n], h.All())
					}
				}
			}
			wantErr(t, "Flush without power", h.Flush(), api.ErrDown)
			safe := h.Safe()
			h.Crash(r.Intn(80))
			n := h.Safe()
			if n < safe || n > top || !slices.Equal(h.All(), behind[n]) {
				t.Fatalf("seed %d: %d with %v, of %d with %d safe", seed, n, h.All(), top, safe)
			}
			wantOrder(t, h)
			top = n
		}
	}
}
