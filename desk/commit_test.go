package desk_test

import (
	"testing"

	"burgage/api"
	"burgage/desk"
)

// deed is one thing that a transaction asks for or changes.
type deed struct {
	what      string
	low, high string
}

func (a deed) do(t *testing.T, d *desk.Desk, id int) {
	t.Helper()
	var err error
	switch a.what {
	case "get":
		if _, err = d.Get(id, a.low); err == api.ErrNone {
			err = nil
		}
	case "range":
		_, err = d.Range(id, a.low, a.high)
	case "put":
		err = d.Put(id, a.low, "new")
	case "drop":
		err = d.Drop(id, a.low)
	}
	wantErr(t, a.what, err, api.OK)
}

// deeds are all in a small world of three keys, of which "b" and "c" are there.
func deeds() []deed {
	l := []deed{{"range", "", end}, {"range", "c", "a"}, {"range", "b", "b"}}
	keys := []string{"a", "b", "c"}
	for i, key := range keys {
		l = append(l, deed{"get", key, ""}, deed{"put", key, ""}, deed{"drop", key, ""})
		for _, high := range append(keys[i+1:len(keys):len(keys)], "d", key+"\x00") {
			l = append(l, deed{"range", key, high}, deed{"range", key + "\x00", high})
		}
	}
	return l
}

func (a deed) changes() bool { return a.what == "put" || a.what == "drop" }

// hangsOn tells whether it is another deed if somebody changed key.
func (a deed) hangsOn(key string) bool {
	if a.what == "range" {
		return a.low <= key && key < a.high
	}
	return a.low == key
}

// TestD2Clash has each deed of one beside each deed of another one that is committed ahead.
func TestD2Clash(t *testing.T) {
	for _, first := range deeds() {
		for _, second := range deeds() {
			d := fresh(t, 400)
			putAlone(t, d, "b", "old")
			putAlone(t, d, "c", "old")
			one, two := begin(t, d), begin(t, d)
			second.do(t, d, two)
			first.do(t, d, one)
			number := 2
			if first.changes() {
				number = 3
			}
			wantCommit(t, d, one, number, api.OK)
			switch {
			case first.changes() && second.hangsOn(first.low):
				wantCommit(t, d, two, 0, api.ErrClash)
			case second.changes():
				wantCommit(t, d, two, number+1, api.OK)
			default:
				wantCommit(t, d, two, 2, api.OK)
			}
			wantCommit(t, d, two, 0, api.ErrNone)
			if t.Failed() {
				t.Fatalf("%v ahead of %v", first, second)
			}
		}
	}
}

// TestD2NoClash has others that were over ahead of the beginning, that ended without a commit, and that come later.
func TestD2NoClash(t *testing.T) {
	d := fresh(t, 400)
	putAlone(t, d, "a", "1")
	id, aborted, later := begin(t, d), begin(t, d), begin(t, d)
	for _, other := range []int{aborted, later} {
		wantPut(t, d, other, "a", "2", api.OK)
		wantDrop(t, d, other, "b", api.OK)
	}
	wantErr(t, "Abort", d.Abort(aborted), api.OK)
	wantGet(t, d, id, "a", "1", api.OK)
	wantRange(t, d, id, "", end, pairs{{Key: "a", Value: "1"}}, api.OK)
	wantPut(t, d, id, "b", "3", api.OK)
	wantCommit(t, d, id, 2, api.OK)
	wantState(t, d, 2, 0, 2, pairs{{Key: "a", Value: "1"}, {Key: "b", Value: "3"}})
	wantCommit(t, d, later, 0, api.ErrClash)
	wantState(t, d, 2, 0, 2, pairs{{Key: "a", Value: "1"}, {Key: "b", Value: "3"}})
}

// TestD2EachThatItAskedFor has a clash in the first, the last and any other of many that it asked for.
func TestD2EachThatItAskedFor(t *testing.T) {
	for changed := range api.MaxReads {
		d := fresh(t, 400)
		id := begin(t, d)
		for i := range api.MaxReads {
			if i%2 == 0 {
				wantGet(t, d, id, name(i), "", api.ErrNone)
			} else {
				wantRange(t, d, id, name(i), name(i)+"m", nil, api.OK)
			}
		}
		key := name(changed)
		if changed%2 == 1 {
			key += "k"
		}
		putAlone(t, d, key, "x")
		wantCommit(t, d, id, 0, api.ErrClash)
	}
}

func TestD2EachThatItChanged(t *testing.T) {
	for changed := range api.MaxChanges + 1 {
		d := fresh(t, 400)
		id := begin(t, d)
		for i := range api.MaxChanges {
			wantPut(t, d, id, name(i), "", api.OK)
		}
		putAlone(t, d, name(changed), "x")
		if changed < api.MaxChanges {
			wantCommit(t, d, id, 0, api.ErrClash)
		} else {
			wantCommit(t, d, id, 2, api.OK)
		}
	}
}

// TestD2RefusedIsNotAsked has keys that were not told of, and changes that were not taken, clash with nothing.
func TestD2RefusedIsNotAsked(t *testing.T) {
	d := fresh(t, 1000)
	id := begin(t, d)
	for range api.MaxReads {
		wantGet(t, d, id, "mine", "", api.ErrNone)
	}
	wantGet(t, d, id, "a", "", api.ErrFull)
	wantRange(t, d, id, "a", "c", nil, api.ErrFull)
	for i := range api.MaxChanges {
		wantPut(t, d, id, "mine"+name(i), "x", api.OK)
	}
	wantPut(t, d, id, "c", "x", api.ErrFull)
	wantDrop(t, d, id, "c", api.ErrFull)
	for _, key := range []string{"a", "b", "c"} {
		putAlone(t, d, key, "x")
	}
	wantCommit(t, d, id, 4, api.OK)
}

// TestD2AnyOneSince has the clash in any of those that were committed since, through a Tidy behind each.
func TestD2AnyOneSince(t *testing.T) {
	for changed := range 5 {
		for gone := range 2 {
			d := fresh(t, 400)
			putAlone(t, d, "key", "old")
			id := begin(t, d)
			wantGet(t, d, id, "key", "old", api.OK)
			wantPut(t, d, id, "other", "x", api.OK)
			for i := range 5 {
				switch {
				case i != changed:
					putAlone(t, d, "more", name(i))
				case gone == 1:
					dropAlone(t, d, "key")
				default:
					putAlone(t, d, "key", "new")
				}
				d.Tidy()
			}
			wantGet(t, d, id, "key", "old", api.OK)
			wantCommit(t, d, id, 0, api.ErrClash)
		}
	}
}

// TestD2PutBackIsChanged has a key that is again as it was.
func TestD2PutBackIsChanged(t *testing.T) {
	d := fresh(t, 400)
	putAlone(t, d, "a", "x")
	same, back, gone := begin(t, d), begin(t, d), begin(t, d)
	wantGet(t, d, same, "a", "x", api.OK)
	putAlone(t, d, "a", "x")
	wantCommit(t, d, same, 0, api.ErrClash)
	wantGet(t, d, back, "a", "x", api.OK)
	dropAlone(t, d, "a")
	putAlone(t, d, "a", "x")
	wantCommit(t, d, back, 0, api.ErrClash)
	wantGet(t, d, gone, "b", "", api.ErrNone)
	dropAlone(t, d, "b")
	d.Tidy()
	wantCommit(t, d, gone, 0, api.ErrClash)
}

func TestD2Numbers(t *testing.T) {
	d := fresh(t, 400)
	reader := begin(t, d)
	wantCommit(t, d, begin(t, d), 0, api.OK)
	putAlone(t, d, "a", "1")
	wantCommit(t, d, begin(t, d), 1, api.OK)
	dropAlone(t, d, "not there")
	mid := begin(t, d)
	wantGet(t, d, mid, "b", "", api.ErrNone)
	putAlone(t, d, "a", "1")
	wantCommit(t, d, mid, 2, api.OK)
	wantCommit(t, d, reader, 0, api.OK)
	wantState(t, d, 3, 0, 3, pairs{{Key: "a", Value: "1"}})
}

func TestD2Abort(t *testing.T) {
	d := fresh(t, 400)
	putAlone(t, d, "a", "1")
	id := begin(t, d)
	wantPut(t, d, id, "a", "2", api.OK)
	wantPut(t, d, id, "b", "2", api.OK)
	wantErr(t, "Abort", d.Abort(id), api.OK)
	wantErr(t, "Abort again", d.Abort(id), api.ErrNone)
	wantState(t, d, 1, 0, 1, pairs{{Key: "a", Value: "1"}})
	d.Crash(400)
	wantState(t, d, 1, 1, 1, pairs{{Key: "a", Value: "1"}})
}

// TestD2Full has a log with room for one list of 7 bytes, and one of 5.
func TestD2Full(t *testing.T) {
	d := fresh(t, 12)
	big := begin(t, d)
	wantPut(t, d, big, "k", "1234567", api.OK)
	wantCommit(t, d, big, 0, api.ErrFull)
	wantCommit(t, d, big, 0, api.ErrNone)
	wantState(t, d, 0, 0, 0, nil)
	putAlone(t, d, "k", "v")
	dropAlone(t, d, "l")
	wantState(t, d, 2, 0, 2, pairs{{Key: "k", Value: "v"}})
	id := begin(t, d)
	wantDrop(t, d, id, "k", api.OK)
	wantCommit(t, d, id, 0, api.ErrFull)
	wantState(t, d, 2, 0, 2, pairs{{Key: "k", Value: "v"}})
	wantCommit(t, d, begin(t, d), 2, api.OK)
	wantErr(t, "Flush", d.Flush(), api.OK)
	d.Crash(0)
	wantState(t, d, 2, 2, 2, pairs{{Key: "k", Value: "v"}})
}

// TestD2ClashAheadOfLog has a clash told ahead of what the log says, without a step of it.
func TestD2ClashAheadOfLog(t *testing.T) {
	d := fresh(t, 7)
	one, two := begin(t, d), begin(t, d)
	wantPut(t, d, one, "k", "v", api.OK)
	wantPut(t, d, two, "k", "v", api.OK)
	wantCommit(t, d, one, 1, api.OK)
	d.Fail(0)
	wantCommit(t, d, two, 0, api.ErrClash)
	wantBegin(t, d, 3, api.OK)
	wantCommit(t, d, 3, 1, api.OK)
	wantBegin(t, d, 4, api.OK)
	wantPut(t, d, 4, "l", "v", api.OK)
	wantCommit(t, d, 4, 0, api.ErrFull)
	wantErr(t, "Flush", d.Flush(), api.ErrDown)
}

// TestD2Most has as many changes as may be, each as long as may be, in just the room that they need.
func TestD2Most(t *testing.T) {
	for room, told := range map[int]api.Errno{762: api.ErrFull, 763: api.OK} {
		d := fresh(t, room)
		id := begin(t, d)
		var want pairs
		for i := range api.MaxChanges {
			key := longKey[2:] + name(i)
			wantPut(t, d, id, key, longValue, api.OK)
			want = append(want, api.Pair{Key: key, Value: longValue})
		}
		if told == api.ErrFull {
			wantCommit(t, d, id, 0, told)
			continue
		}
		wantCommit(t, d, id, 1, api.OK)
		wantState(t, d, 1, 0, api.MaxChanges, want)
		d.Crash(room)
		wantState(t, d, 1, 1, api.MaxChanges, want)
	}
}
