package desk_test

import (
	"math"
	"slices"
	"strings"
	"testing"

	"burgage/api"
	"burgage/desk"
	"burgage/plain"
)

type pairs = []api.Pair

// end is above each key that these tests put, but for those that say so.
const end = "\xff"

var (
	longKey   = strings.Repeat("k", api.MaxKey)
	longValue = strings.Repeat("v", api.MaxValue)
)

// wrongKeys are none that may be.
var wrongKeys = []string{"", longKey + "k", strings.Repeat("k", 10000)}

// wrongIDs are of no transaction, while fewer than 50 were begun.
var wrongIDs = []int{0, -1, 50, math.MinInt, math.MaxInt}

// name gives a key of two bytes by its number.
func name(n int) string { return string([]byte{'a' + byte(n/26), 'a' + byte(n%26)}) }

func fresh(t *testing.T, room int) *desk.Desk {
	t.Helper()
	d, err := desk.New(room)
	if d == nil || err != nil {
		t.Fatalf("New of %d: %v %v", room, d, err)
	}
	return d
}

// begin gives a desk's next transaction.
func begin(t *testing.T, d *desk.Desk) int {
	t.Helper()
	id, err := d.Begin()
	if id < 1 || err != nil {
		t.Fatalf("Begin: %d %v", id, err)
	}
	return id
}

func wantErr(t *testing.T, name string, err error, want api.Errno) {
	t.Helper()
	if plain.Told(err) != want {
		t.Errorf("%s: tells %v, want %v", name, err, want)
	}
}

func wantBegin(t *testing.T, d *desk.Desk, want int, told api.Errno) {
	t.Helper()
	if id, err := d.Begin(); id != want || plain.Told(err) != told {
		t.Errorf("Begin: answers %d %v, want %d %v", id, err, want, told)
	}
}

func wantGet(t *testing.T, d *desk.Desk, id int, key, want string, told api.Errno) {
	t.Helper()
	if got, err := d.Get(id, key); got != want || plain.Told(err) != told {
		t.Errorf("Get of %d, %q: answers %q %v, want %q %v", id, key, got, err, want, told)
	}
}

func wantRange(t *testing.T, d *desk.Desk, id int, low, high string, want pairs, told api.Errno) {
	t.Helper()
	got, err := d.Range(id, low, high)
	if !slices.Equal(got, want) || plain.Told(err) != told {
		t.Errorf("Range of %d, %q, %q: answers %v %v, want %v %v", id, low, high, got, err, want, told)
	}
	if err != nil && got != nil {
		t.Errorf("Range: answers a list that is not nil beside an error")
	}
}

func wantPut(t *testing.T, d *desk.Desk, id int, key, value string, told api.Errno) {
	t.Helper()
	if err := d.Put(id, key, value); plain.Told(err) != told {
		t.Errorf("Put of %d, %q, %q: tells %v, want %v", id, key, value, err, told)
	}
}

func wantDrop(t *testing.T, d *desk.Desk, id int, key string, told api.Errno) {
	t.Helper()
	if err := d.Drop(id, key); plain.Told(err) != told {
		t.Errorf("Drop of %d, %q: tells %v, want %v", id, key, err, told)
	}
}

func wantCommit(t *testing.T, d *desk.Desk, id, want int, told api.Errno) {
	t.Helper()
	if n, err := d.Commit(id); n != want || plain.Told(err) != told {
		t.Errorf("Commit of %d: answers %d %v, want %d %v", id, n, err, want, told)
	}
}

// wantState asks for all that a desk tells without an id.
func wantState(t *testing.T, d *desk.Desk, top, safe, size int, all pairs) {
	t.Helper()
	if d.Top() != top || d.Safe() != safe || d.Size() != size {
		t.Errorf("Top %d, Safe %d, Size %d, want %d, %d, %d", d.Top(), d.Safe(), d.Size(), top, safe, size)
	}
	if got := d.All(); !slices.Equal(got, all) {
		t.Errorf("All: %v, want %v", got, all)
	}
}

// putAlone commits a value in a transaction of its own.
func putAlone(t *testing.T, d *desk.Desk, key, value string) {
	t.Helper()
	id := begin(t, d)
	wantPut(t, d, id, key, value, api.OK)
	wantCommit(t, d, id, d.Top()+1, api.OK)
}

func dropAlone(t *testing.T, d *desk.Desk, key string) {
	t.Helper()
	id := begin(t, d)
	wantDrop(t, d, id, key, api.OK)
	wantCommit(t, d, id, d.Top()+1, api.OK)
}

func TestD1Room(t *testing.T) {
	for _, room := range []int{-1, -api.MaxRoom, math.MinInt, api.MaxRoom + 1, math.MaxInt} {
		d, err := desk.New(room)
		if d != nil || plain.Told(err) != api.ErrRange {
			t.Errorf("New of %d: answers %v %v, want nil %v", room, d, err, api.ErrRange)
		}
	}
	for _, room := range []int{0, 1, api.MaxRoom - 1, api.MaxRoom} {
		wantState(t, fresh(t, room), 0, 0, 0, nil)
	}
}

// TestD1IDs has each id once, however the ones ahead ended, and through a crash.
func TestD1IDs(t *testing.T) {
	d := fresh(t, 100)
	for id := 1; id <= 3; id++ {
		wantBegin(t, d, id, api.OK)
	}
	wantErr(t, "Abort", d.Abort(3), api.OK)
	wantBegin(t, d, 4, api.OK)
	wantCommit(t, d, 1, 0, api.OK)
	wantBegin(t, d, 5, api.OK)
	d.Crash(0)
	wantBegin(t, d, 6, api.OK)
	other := fresh(t, 100)
	wantBegin(t, other, 1, api.OK)
	wantBegin(t, d, 7, api.OK)
}

func TestD1Open(t *testing.T) {
	d := fresh(t, 100)
	for id := 1; id <= api.MaxOpen; id++ {
		wantBegin(t, d, id, api.OK)
	}
	wantBegin(t, d, 0, api.ErrFull)
	wantBegin(t, d, 0, api.ErrFull)
	wantErr(t, "Abort", d.Abort(4), api.OK)
	wantBegin(t, d, 9, api.OK)
	wantBegin(t, d, 0, api.ErrFull)
	wantCommit(t, d, 9, 0, api.OK)
	wantBegin(t, d, 10, api.OK)
	wantPut(t, d, 1, "a", "x", api.OK)
	wantPut(t, d, 2, "a", "x", api.OK)
	wantCommit(t, d, 1, 1, api.OK)
	wantBegin(t, d, 11, api.OK)
	wantBegin(t, d, 0, api.ErrFull)
	wantCommit(t, d, 2, 0, api.ErrClash)
	wantBegin(t, d, 12, api.OK)
	wantBegin(t, d, 0, api.ErrFull)
	d.Crash(0)
	for id := 13; id < 13+api.MaxOpen; id++ {
		wantBegin(t, d, id, api.OK)
	}
	wantBegin(t, d, 0, api.ErrFull)
}

// TestD1BeginWithoutPower has the power go off in each kind of step.
func TestD1BeginWithoutPower(t *testing.T) {
	for step := range 2 {
		d := fresh(t, 100)
		id := begin(t, d)
		wantPut(t, d, id, "a", "x", api.OK)
		d.Fail(0)
		wantBegin(t, d, 2, api.OK)
		if step == 0 {
			wantErr(t, "Flush", d.Flush(), api.ErrDown)
		} else {
			wantCommit(t, d, id, 0, api.ErrDown)
		}
		wantBegin(t, d, 0, api.ErrDown)
		d.Fail(-1)
		wantBegin(t, d, 0, api.ErrDown)
		d.Crash(0)
		wantBegin(t, d, 3, api.OK)
	}
}

func TestD1FullAheadOfDown(t *testing.T) {
	d := fresh(t, 100)
	for range api.MaxOpen {
		begin(t, d)
	}
	d.Fail(0)
	wantErr(t, "Flush", d.Flush(), api.ErrDown)
	wantBegin(t, d, 0, api.ErrFull)
	wantErr(t, "Abort", d.Abort(1), api.OK)
	wantBegin(t, d, 0, api.ErrDown)
}

// TestD1NoSuchOne has ids of none, and of those that are over, ahead of all else that is wrong.
func TestD1NoSuchOne(t *testing.T) {
	d := fresh(t, 100)
	for range 4 {
		begin(t, d)
	}
	wantPut(t, d, 1, "a", "x", api.OK)
	wantPut(t, d, 2, "a", "x", api.OK)
	wantCommit(t, d, 1, 1, api.OK)
	wantCommit(t, d, 2, 0, api.ErrClash)
	wantErr(t, "Abort", d.Abort(3), api.OK)
	for _, id := range append([]int{1, 2, 3, 5}, wrongIDs...) {
		for _, key := range append([]string{"a"}, wrongKeys...) {
			wantGet(t, d, id, key, "", api.ErrNone)
			wantPut(t, d, id, key, "x", api.ErrNone)
			wantPut(t, d, id, key, longValue+"v", api.ErrNone)
			wantDrop(t, d, id, key, api.ErrNone)
		}
		wantRange(t, d, id, "", end, nil, api.ErrNone)
		wantCommit(t, d, id, 0, api.ErrNone)
		wantErr(t, "Abort", d.Abort(id), api.ErrNone)
	}
	wantCommit(t, d, 4, 0, api.OK)
	wantState(t, d, 1, 0, 1, pairs{{Key: "a", Value: "x"}})
}

// TestD1SeesWhatWasThere has what others commit later, and do not commit, told to none that began ahead.
func TestD1SeesWhatWasThere(t *testing.T) {
	d := fresh(t, 400)
	putAlone(t, d, "a", "1")
	putAlone(t, d, "b", "1")
	early, open := begin(t, d), begin(t, d)
	wantPut(t, d, open, "b", "open", api.OK)
	wantDrop(t, d, open, "a", api.OK)
	putAlone(t, d, "a", "2")
	dropAlone(t, d, "b")
	putAlone(t, d, "c", "2")
	late := begin(t, d)
	for range 2 {
		wantGet(t, d, early, "a", "1", api.OK)
		wantGet(t, d, early, "b", "1", api.OK)
		wantGet(t, d, early, "c", "", api.ErrNone)
		wantRange(t, d, early, "", end, pairs{{Key: "a", Value: "1"}, {Key: "b", Value: "1"}}, api.OK)
		wantGet(t, d, late, "a", "2", api.OK)
		wantGet(t, d, late, "b", "", api.ErrNone)
		wantRange(t, d, late, "", end, pairs{{Key: "a", Value: "2"}, {Key: "c", Value: "2"}}, api.OK)
		wantGet(t, d, open, "a", "", api.ErrNone)
		wantGet(t, d, open, "c", "", api.ErrNone)
		wantRange(t, d, open, "", end, pairs{{Key: "b", Value: "open"}}, api.OK)
		d.Tidy()
	}
}

func TestD1OwnChangesOver(t *testing.T) {
	d := fresh(t, 400)
	for _, key := range []string{"b", "d", "f"} {
		putAlone(t, d, key, "old")
	}
	id := begin(t, d)
	wantPut(t, d, id, "a", "new", api.OK)
	wantPut(t, d, id, "d", "new", api.OK)
	wantPut(t, d, id, "e", "", api.OK)
	wantDrop(t, d, id, "f", api.OK)
	wantDrop(t, d, id, "z", api.OK)
	wantPut(t, d, id, "g", "1", api.OK)
	wantPut(t, d, id, "g", "2", api.OK)
	wantPut(t, d, id, "h", "1", api.OK)
	wantDrop(t, d, id, "h", api.OK)
	wantDrop(t, d, id, "i", api.OK)
	wantPut(t, d, id, "i", "3", api.OK)
	all := pairs{{Key: "a", Value: "new"}, {Key: "b", Value: "old"}, {Key: "d", Value: "new"}, {Key: "e"},
		{Key: "g", Value: "2"}, {Key: "i", Value: "3"}}
	for key := 'a'; key <= 'z'; key++ {
		i := slices.IndexFunc(all, func(p api.Pair) bool { return p.Key == string(key) })
		if i < 0 {
			wantGet(t, d, id, string(key), "", api.ErrNone)
		} else {
			wantGet(t, d, id, string(key), all[i].Value, api.OK)
		}
	}
	wantRange(t, d, id, "", end, all, api.OK)
	wantRange(t, d, id, "a", "j", all, api.OK)
	wantRange(t, d, id, "a", "i", all[:5], api.OK)
	wantRange(t, d, id, "a\x00", "g\x00", all[1:5], api.OK)
	wantRange(t, d, id, "d", "g", all[2:4], api.OK)
	wantRange(t, d, id, "d", "d", nil, api.OK)
	wantRange(t, d, id, "i", "a", nil, api.OK)
	wantRange(t, d, id, "", "", nil, api.OK)
	wantRange(t, d, id, strings.Repeat("a", 10000), strings.Repeat("d", 10000), all[1:3], api.OK)
	wantCommit(t, d, id, 4, api.OK)
	wantState(t, d, 4, 0, 11, all)
}

func TestD1WrongKeys(t *testing.T) {
	d := fresh(t, 100)
	id := begin(t, d)
	for _, key := range wrongKeys {
		wantGet(t, d, id, key, "", api.ErrShape)
		wantPut(t, d, id, key, "x", api.ErrShape)
		wantPut(t, d, id, key, longValue+"v", api.ErrShape)
		wantDrop(t, d, id, key, api.ErrShape)
	}
	wantPut(t, d, id, "a", longValue+"v", api.ErrShape)
	wantPut(t, d, id, "a", strings.Repeat("v", 10000), api.ErrShape)
	wantRange(t, d, id, "", end, nil, api.OK)
	wantCommit(t, d, id, 0, api.OK)
	wantState(t, d, 0, 0, 0, nil)
}

func TestD1LongestAndAnyBytes(t *testing.T) {
	d := fresh(t, 1000)
	id := begin(t, d)
	last := strings.Repeat("\xff", api.MaxKey)
	var want pairs
	for _, key := range []string{"\x00", "\x00\x00", "a", longKey, "\x80", "ü", "\xff", last} {
		for _, value := range []string{"", "\x00\xff", longValue} {
			wantPut(t, d, id, key, value, api.OK)
			wantGet(t, d, id, key, value, api.OK)
		}
		want = append(want, api.Pair{Key: key, Value: longValue})
	}
	wantRange(t, d, id, "", last, want[:len(want)-1], api.OK)
	wantRange(t, d, id, "", last+"\x00", want, api.OK)
	wantCommit(t, d, id, 1, api.OK)
	wantState(t, d, 1, 0, len(want), want)
}

// TestD1Reads has those that are told that something is not there count, and those that were wrong not.
func TestD1Reads(t *testing.T) {
	d := fresh(t, 1000)
	putAlone(t, d, "a", "x")
	id, other := begin(t, d), begin(t, d)
	wantPut(t, d, id, "own", "y", api.OK)
	for i := range api.MaxReads {
		for _, key := range wrongKeys {
			wantGet(t, d, id, key, "", api.ErrShape)
		}
		switch i % 5 {
		case 0:
			wantGet(t, d, id, "a", "x", api.OK)
		case 1:
			wantGet(t, d, id, "b", "", api.ErrNone)
		case 2:
			wantRange(t, d, id, "a", "b", pairs{{Key: "a", Value: "x"}}, api.OK)
		case 3:
			wantRange(t, d, id, "b", "a", nil, api.OK)
		case 4:
			wantGet(t, d, id, "own", "y", api.OK)
		}
	}
	for range 3 {
		wantGet(t, d, id, "a", "", api.ErrFull)
		wantGet(t, d, id, "b", "", api.ErrFull)
		wantGet(t, d, id, "own", "", api.ErrFull)
		wantRange(t, d, id, "", end, nil, api.ErrFull)
		wantRange(t, d, id, "b", "a", nil, api.ErrFull)
		for _, key := range wrongKeys {
			wantGet(t, d, id, key, "", api.ErrShape)
		}
	}
	wantGet(t, d, other, "a", "x", api.OK)
	wantPut(t, d, id, "more", "z", api.OK)
	wantCommit(t, d, id, 2, api.OK)
	wantGet(t, d, begin(t, d), "more", "z", api.OK)
}

func TestD1Changes(t *testing.T) {
	d := fresh(t, 1000)
	id, other := begin(t, d), begin(t, d)
	for i := range api.MaxChanges {
		wantPut(t, d, id, "again", "x", api.OK)
		wantDrop(t, d, id, "again", api.OK)
		if i > 0 && i%2 == 0 {
			wantPut(t, d, id, name(i), "x", api.OK)
		} else if i > 0 {
			wantDrop(t, d, id, name(i), api.OK)
		}
	}
	for range 3 {
		wantPut(t, d, id, "one more", "x", api.ErrFull)
		wantDrop(t, d, id, "one more", api.ErrFull)
		wantPut(t, d, id, "", "x", api.ErrShape)
		wantDrop(t, d, id, longKey+"k", api.ErrShape)
		wantPut(t, d, id, "one more", longValue+"v", api.ErrShape)
		wantPut(t, d, id, name(1), longValue+"v", api.ErrShape)
	}
	for i := 1; i < api.MaxChanges; i++ {
		wantDrop(t, d, id, name(i), api.OK)
	}
	wantPut(t, d, id, "again", "last", api.OK)
	wantGet(t, d, id, "one more", "", api.ErrNone)
	wantPut(t, d, other, "one more", "x", api.OK)
	wantCommit(t, d, id, 1, api.OK)
	wantState(t, d, 1, 0, api.MaxChanges, pairs{{Key: "again", Value: "last"}})
}

// TestD1FreshMemory spoils what came out, and asks again.
func TestD1FreshMemory(t *testing.T) {
	d := fresh(t, 100)
	putAlone(t, d, "a", "x")
	id := begin(t, d)
	wantPut(t, d, id, "b", "y", api.OK)
	want := pairs{{Key: "a", Value: "x"}, {Key: "b", Value: "y"}}
	for range 2 {
		l, _ := d.Range(id, "", end)
		if !slices.Equal(l, want) {
			t.Errorf("Range: %v, want %v", l, want)
		}
		clear(l[:cap(l)])
		all := d.All()
		if !slices.Equal(all, want[:1]) {
			t.Errorf("All: %v, want %v", all, want[:1])
		}
		clear(all[:cap(all)])
	}
}
