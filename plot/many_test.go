package plot_test

import (
	"cmp"
	"fmt"
	"math/rand"
	"slices"
	"testing"

	"burgage/api"
	"burgage/desk"
	"burgage/plain"
	"burgage/plot"
)

// story is all that one transaction asked and was told, and the number that it was committed with.
type story struct {
	id, number int
	// reads is 0 where it changed something, else 1.
	reads int
	calls []api.Call
	told  []string
}

func ask(d *desk.Desk, id int, c api.Call) (string, error) {
	answer, err := plot.Do(d, id, c)
	return fmt.Sprint(answer, plain.Told(err)), err
}

func (s *story) ask(d *desk.Desk, c api.Call) {
	told, err := ask(d, s.id, c)
	if err == nil && c.What != api.List && c.What != api.Who {
		s.reads = 0
	}
	s.calls, s.told = append(s.calls, c), append(s.told, told)
}

// mixed has many transactions at once, and gives the stories of those that were committed.
func mixed(t *testing.T, r *rand.Rand, d *desk.Desk) (done []*story, clashes int) {
	t.Helper()
	var open []*story
	for range 500 {
		if len(open) < api.MaxOpen && r.Intn(3) == 0 {
			open = append(open, &story{id: begin(t, d), reads: 1})
		}
		if len(open) == 0 {
			continue
		}
		i := r.Intn(len(open))
		s := open[i]
		if r.Intn(4) > 0 {
			s.ask(d, someCall(r))
			continue
		}
		open = slices.Delete(open, i, i+1)
		n, err := d.Commit(s.id)
		switch plain.Told(err) {
		case api.OK:
			s.number = n
			done = append(done, s)
		case api.ErrClash:
			clashes++
		default:
			t.Fatalf("Commit: %v", err)
		}
	}
	return done, clashes
}

// TestP3OneBehindTheOther asks all that was committed again, one alone behind the other, by their numbers.
func TestP3OneBehindTheOther(t *testing.T) {
	commits, clashes := 0, 0
	for seed := range int64(150) {
		d := fresh(t)
		done, n := mixed(t, rand.New(rand.NewSource(seed)), d)
		commits, clashes = commits+len(done), clashes+n
		// One that changed something made what those that changed nothing, and have the same number, saw.
		slices.SortStableFunc(done, func(s, q *story) int {
			return cmp.Or(cmp.Compare(s.number, q.number), cmp.Compare(s.reads, q.reads))
		})
		alone := fresh(t)
		for _, s := range done {
			id := begin(t, alone)
			for i, c := range s.calls {
				if got, _ := ask(alone, id, c); got != s.told[i] {
					t.Fatalf("seed %d, number %d, %+v: told %s, alone %s", seed, s.number, c, s.told[i], got)
				}
			}
			commit(t, alone, id)
		}
		if !slices.Equal(alone.All(), d.All()) || alone.Top() != d.Top() {
			t.Fatalf("seed %d: %v, alone %v", seed, d.All(), alone.All())
		}
		wantOrder(t, d.All())
	}
	if commits < 1000 || clashes < 1000 {
		t.Errorf("only %d committed and %d clashes", commits, clashes)
	}
}

// wantOrder holds each address to having a prefix, and each prefix to having a net.
func wantOrder(t *testing.T, l []api.Pair) {
	t.Helper()
	m := &deal{world: map[string]string{}}
	nets := []string{"x", "xa", "y"}
	seen := 0
	for _, p := range l {
		m.world[p.Key] = p.Value
	}
	for _, net := range nets {
		_, there := m.get("n/" + net)
		prefixes, placed := m.prefixes(net), m.addrs(net)
		if there {
			seen++
		} else if len(prefixes) > 0 {
			t.Errorf("%v have no net", prefixes)
		}
		for _, a := range placed {
			if !slices.ContainsFunc(prefixes, func(p api.Prefix) bool { return has(p, a) }) {
				t.Errorf("%d has no prefix", a)
			}
		}
		seen += len(prefixes) + len(placed)
	}
	if seen != len(l) {
		t.Errorf("%d keys, of which only %d are of these nets", len(l), seen)
	}
}

// TestP3NothingTwice has many who ask for the next of a prefix at once: only the first one gets it, and each round
// gives what no other one gave.
func TestP3NothingTwice(t *testing.T) {
	wide := pre(0, 25)
	for _, c := range []api.Call{
		{What: api.NextAddr, Name: "x", Prefix: wide, Owner: "p"},
		{What: api.NextPrefix, Name: "x", Prefix: wide, Len: 32, Owner: "p"},
	} {
		d := fresh(t)
		stock(t, d, "n/x=o", plot.PrefixKey("x", wide)+"=o")
		given := map[string]int{}
		for range 40 {
			var ids []int
			for range api.MaxOpen {
				ids = append(ids, begin(t, d))
			}
			for _, id := range ids {
				told, err := ask(d, id, c)
				if err != nil {
					t.Fatal(err)
				}
				given[told]++
			}
			for i, id := range ids {
				if _, err := d.Commit(id); (err == nil) != (i == 0) {
					t.Fatalf("Commit of the %dth: %v", i, err)
				}
			}
		}
		if len(given) != 40 || len(d.All()) != 42 {
			t.Errorf("What %d: %d were given in 40 rounds, and %d keys are there", c.What, len(given), len(d.All()))
		}
	}
}

// TestP3Together has two calls at once, each of which may be taken alone, in both orders: where the second one would be
// told something else behind the first one, it is not committed.
func TestP3Together(t *testing.T) {
	rows := []string{"n/x=o", "p/x/0000000028=o", "p/x/0000000029=o", "a/x/00000001=o"}
	call := func(what, a int, p api.Prefix) api.Call {
		return api.Call{What: what, Name: "x", Addr: a, Prefix: p, Len: 30, Owner: "p"}
	}
	for _, c := range []struct {
		name string
		a, b api.Call
		// both are committed as they stand, and turned round.
		both, turned bool
	}{
		{"Add twice", call(api.Add, 0, pre(16, 28)), call(api.Add, 0, pre(16, 28)), false, false},
		{"Place twice", call(api.Place, 5, none), call(api.Place, 5, none), false, false},
		{"Leave twice", call(api.Leave, 1, none), call(api.Leave, 1, none), false, false},
		{"Take and Place in it", call(api.Take, 0, pre(0, 29)), call(api.Place, 2, none), false, false},
		{"Take and NextAddr of it", call(api.Take, 0, pre(0, 29)), call(api.NextAddr, 0, pre(0, 29)), false, false},
		{"Take and NextPrefix of it", call(api.Take, 0, pre(0, 29)), call(api.NextPrefix, 0, pre(0, 29)), false, false},
		{"Take and Add in it", call(api.Take, 0, pre(0, 29)), call(api.Add, 0, pre(0, 30)), true, false},
		{"NextAddr and Place of it", call(api.NextAddr, 0, pre(0, 28)), call(api.Place, 2, none), false, false},
		{"NextPrefix and Add of it", call(api.NextPrefix, 0, pre(0, 28)), call(api.Add, 0, pre(8, 30)), false, false},
		{"Add of two", call(api.Add, 0, pre(16, 28)), call(api.Add, 0, pre(32, 28)), true, true},
		{"Place of two", call(api.Place, 5, none), call(api.Place, 6, none), true, true},
		{"Leave and Add", call(api.Leave, 1, none), call(api.Add, 0, pre(16, 28)), true, true},
	} {
		wantTogether(t, c.name, rows, c.a, c.b, c.both)
		wantTogether(t, c.name+", turned", rows, c.b, c.a, c.turned)
	}
}

func wantTogether(t *testing.T, name string, rows []string, a, b api.Call, both bool) {
	t.Helper()
	d, one := stocked(t, rows...)
	other := begin(t, d)
	wantTaken(t, d, one, a)
	wantTaken(t, d, other, b)
	commit(t, d, one)
	if _, err := d.Commit(other); (err == nil) != both {
		t.Errorf("%s: the second one's Commit tells %v", name, err)
	}
	wantOrder(t, d.All())
}

func wantTaken(t *testing.T, d *desk.Desk, id int, c api.Call) {
	t.Helper()
	if _, err := plot.Do(d, id, c); err != nil {
		t.Errorf("Do of %+v: %v", c, err)
	}
}

// TestP2OthersSeeNothing has a call's work unseen until it is committed, and gone with a crash if it is not safe.
func TestP2OthersSeeNothing(t *testing.T) {
	d := fresh(t)
	one, other := begin(t, d), begin(t, d)
	net := api.Call{What: api.Net, Name: "x", Owner: "o"}
	list := api.Call{What: api.List, Name: "x"}
	wantDo(t, d, one, net, api.Answer{}, api.OK)
	wantDo(t, d, one, list, api.Answer{}, api.OK)
	wantDo(t, d, other, list, api.Answer{}, api.ErrNone)
	commit(t, d, one)
	wantDo(t, d, other, list, api.Answer{}, api.ErrNone)
	wantDo(t, d, begin(t, d), list, api.Answer{}, api.OK)
	d.Crash(0)
	wantDo(t, d, other, list, api.Answer{}, api.ErrNone)
	wantDo(t, d, begin(t, d), list, api.Answer{}, api.ErrNone)
}
