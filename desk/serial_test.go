package desk_test

import (
	"cmp"
	"fmt"
	"math/rand"
	"slices"
	"testing"

	"burgage/api"
	"burgage/desk"
	"burgage/plain"
)

// line is one call of a transaction, that can be asked again, and what it was told.
type line struct {
	ask  func(d *desk.Desk, id int) string
	told string
}

// story is all that one transaction asked and was told, and the number that it was committed with.
type story struct {
	id, number int
	writes     bool
	lines      []line
}

// someLine of a transaction; only the last two kinds write.
func someLine(r *rand.Rand) (func(d *desk.Desk, id int) string, bool) {
	keys := []string{"a", "b", "c", "d", "e"}
	key, high, value := pick(r, keys), pick(r, keys), fmt.Sprint(r.Intn(1000))
	switch r.Intn(5) {
	case 0, 1:
		return func(d *desk.Desk, id int) string {
			v, err := d.Get(id, key)
			return say(v, plain.Told(err))
		}, false
	case 2:
		return func(d *desk.Desk, id int) string {
			l, err := d.Range(id, key, high)
			return say(l, plain.Told(err))
		}, false
	case 3:
		return func(d *desk.Desk, id int) string { return say("put", plain.Told(d.Put(id, key, value))) }, true
	}
	return func(d *desk.Desk, id int) string { return say("drop", plain.Told(d.Drop(id, key))) }, true
}

// mixed has many transactions at once, and gives the stories of those that were committed.
func mixed(t *testing.T, r *rand.Rand, d *desk.Desk) []*story {
	t.Helper()
	var open, done []*story
	clashes := 0
	for range 600 {
		if len(open) < api.MaxOpen && r.Intn(4) == 0 {
			open = append(open, &story{id: begin(t, d)})
		}
		if len(open) == 0 {
			continue
		}
		i := r.Intn(len(open))
		s := open[i]
		if r.Intn(6) > 0 {
			ask, writes := someLine(r)
			s.lines = append(s.lines, line{ask, ask(d, s.id)})
			s.writes = s.writes || writes
			continue
		}
		open = slices.Delete(open, i, i+1)
		n, err := d.Commit(s.id)
		if err == nil {
			s.number = n
			done = append(done, s)
		} else if plain.Told(err) == api.ErrClash && n == 0 {
			clashes++
		} else {
			t.Fatalf("Commit: %d %v", n, err)
		}
		if r.Intn(5) == 0 {
			d.Tidy()
		}
	}
	if len(done) < 5 || clashes < 5 {
		t.Fatalf("only %d committed and %d clashes", len(done), clashes)
	}
	return done
}

// TestD4OneBehindTheOther asks all that was committed again, one alone behind the other, by their numbers.
func TestD4OneBehindTheOther(t *testing.T) {
	for seed := range int64(200) {
		r := rand.New(rand.NewSource(seed))
		d := fresh(t, 10000)
		done := mixed(t, r, d)
		// One that wrote made what those that wrote nothing, and have the same number, saw.
		slices.SortStableFunc(done, func(s, q *story) int {
			if s.number == q.number && s.writes != q.writes {
				return map[bool]int{true: -1, false: 1}[s.writes]
			}
			return cmp.Compare(s.number, q.number)
		})
		alone := fresh(t, 10000)
		for _, s := range done {
			id := begin(t, alone)
			for _, l := range s.lines {
				if got := l.ask(alone, id); got != l.told {
					t.Fatalf("seed %d, number %d: told %q, alone %q", seed, s.number, l.told, got)
				}
			}
			wantCommit(t, alone, id, s.number, api.OK)
		}
		if !slices.Equal(alone.All(), d.All()) || alone.Top() != d.Top() {
			t.Fatalf("seed %d: %v, alone %v", seed, d.All(), alone.All())
		}
	}
}

// TestD4SafeIsNotForgotten crashes again and again: all is as behind some commit, none ahead of one that was safe.
func TestD4SafeIsNotForgotten(t *testing.T) {
	for seed := range int64(200) {
		r := rand.New(rand.NewSource(seed))
		d := fresh(t, 3000)
		behind := []pairs{nil}
		for range 8 {
			d.Fail(r.Intn(12))
			for d.Flush() == nil {
				for range r.Intn(4) {
					if change(r, d) {
						behind = append(behind[:d.Top():d.Top()], d.All())
					}
				}
			}
			safe, top := d.Safe(), d.Top()
			d.Crash(r.Intn(60))
			if n := d.Top(); n < safe || n > top || d.Safe() != n || !slices.Equal(d.All(), behind[n]) {
				t.Fatalf("seed %d: Top %d with %v, of %d with %d safe", seed, n, d.All(), top, safe)
			}
		}
	}
}

// change commits something, and tells whether it was done.
func change(r *rand.Rand, d *desk.Desk) bool {
	id, err := d.Begin()
	if err != nil {
		return false
	}
	for range 1 + r.Intn(3) {
		d.Put(id, pick(r, []string{"a", "b", "c"}), fmt.Sprint(r.Intn(1000)))
		d.Drop(id, pick(r, []string{"a", "b", "c"}))
	}
	_, err = d.Commit(id)
	return err == nil
}

// TestD4NothingTwice has many who each take the first free name at once: each name goes to one.
func TestD4NothingTwice(t *testing.T) {
	d := fresh(t, 10000)
	owners := map[string]int{}
	for range 30 {
		var ids []int
		for range api.MaxOpen {
			ids = append(ids, begin(t, d))
		}
		for _, id := range ids {
			taken, err := d.Range(id, "", end)
			if err != nil {
				t.Fatal(err)
			}
			wantPut(t, d, id, name(len(taken)), fmt.Sprint(id), api.OK)
		}
		for i, id := range ids {
			_, err := d.Commit(id)
			if want := map[bool]api.Errno{true: api.OK, false: api.ErrClash}[i == 0]; plain.Told(err) != want {
				t.Fatalf("Commit of %d: %v, want %v", id, err, want)
			}
			if err == nil {
				owners[name(len(owners))] = id
			}
		}
	}
	all := d.All()
	for _, p := range all {
		if fmt.Sprint(owners[p.Key]) != p.Value {
			t.Errorf("%q belongs to %q, want %d", p.Key, p.Value, owners[p.Key])
		}
	}
	if len(all) != 30 || len(owners) != 30 {
		t.Errorf("%d names, %d owners, want 30", len(all), len(owners))
	}
}
