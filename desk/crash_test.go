package desk_test

import (
	"math"
	"testing"

	"burgage/api"
	"burgage/desk"
)

// three gives a desk with three commits of 7 bytes each, of which the first is safe.
func three(t *testing.T) *desk.Desk {
	t.Helper()
	d := fresh(t, 100)
	putAlone(t, d, "a", "1")
	wantErr(t, "Flush", d.Flush(), api.OK)
	putAlone(t, d, "b", "2")
	putAlone(t, d, "a", "3")
	wantState(t, d, 3, 1, 3, pairs{{Key: "a", Value: "3"}, {Key: "b", Value: "2"}})
	return d
}

// wantThree asks for what there is of three's commits behind a crash that left n of them.
func wantThree(t *testing.T, d *desk.Desk, n int) {
	t.Helper()
	switch n {
	case 1:
		wantState(t, d, 1, 1, 1, pairs{{Key: "a", Value: "1"}})
	case 2:
		wantState(t, d, 2, 2, 2, pairs{{Key: "a", Value: "1"}, {Key: "b", Value: "2"}})
	case 3:
		wantState(t, d, 3, 3, 3, pairs{{Key: "a", Value: "3"}, {Key: "b", Value: "2"}})
	}
}

func TestD3Flush(t *testing.T) {
	d := fresh(t, 100)
	wantErr(t, "Flush of nothing", d.Flush(), api.OK)
	wantState(t, d, 0, 0, 0, nil)
	d = three(t)
	id := begin(t, d)
	wantPut(t, d, id, "c", "4", api.OK)
	wantErr(t, "Flush", d.Flush(), api.OK)
	wantErr(t, "Flush", d.Flush(), api.OK)
	wantState(t, d, 3, 3, 3, pairs{{Key: "a", Value: "3"}, {Key: "b", Value: "2"}})
	wantCommit(t, d, id, 4, api.OK)
	if d.Safe() != 3 {
		t.Errorf("Safe behind a commit: %d", d.Safe())
	}
}

func TestD3FlushFails(t *testing.T) {
	d := three(t)
	d.Fail(0)
	for range 3 {
		wantErr(t, "Flush", d.Flush(), api.ErrDown)
		wantState(t, d, 3, 1, 3, pairs{{Key: "a", Value: "3"}, {Key: "b", Value: "2"}})
	}
	d.Crash(0)
	wantThree(t, d, 1)
}

// TestD3CommitFails has the list of which half is there told to none, neither ahead of the crash nor behind it.
func TestD3CommitFails(t *testing.T) {
	for _, keep := range []int{0, 14, 17, 100, math.MaxInt} {
		d := three(t)
		id := begin(t, d)
		wantPut(t, d, id, "c", "4", api.OK)
		wantDrop(t, d, id, "b", api.OK)
		d.Fail(0)
		wantCommit(t, d, id, 0, api.ErrDown)
		wantCommit(t, d, id, 0, api.ErrNone)
		wantState(t, d, 3, 1, 3, pairs{{Key: "a", Value: "3"}, {Key: "b", Value: "2"}})
		d.Crash(keep)
		if keep == 0 {
			wantThree(t, d, 1)
		} else {
			wantThree(t, d, 3)
		}
		putAlone(t, d, "c", "5")
		wantErr(t, "Flush", d.Flush(), api.OK)
		if n := d.Safe(); n != d.Top() {
			t.Errorf("Safe behind a crash and a Flush: %d of %d", n, d.Top())
		}
	}
}

// TestD3WithoutPower has those that are open go on, as far as the log is not needed.
func TestD3WithoutPower(t *testing.T) {
	d := three(t)
	reader, writer, clash := begin(t, d), begin(t, d), begin(t, d)
	wantGet(t, d, clash, "a", "3", api.OK)
	putAlone(t, d, "a", "4")
	d.Fail(0)
	wantErr(t, "Flush", d.Flush(), api.ErrDown)
	wantGet(t, d, reader, "b", "2", api.OK)
	wantRange(t, d, reader, "b", end, pairs{{Key: "b", Value: "2"}}, api.OK)
	wantPut(t, d, writer, "c", "5", api.OK)
	wantDrop(t, d, writer, "b", api.OK)
	wantGet(t, d, writer, "b", "", api.ErrNone)
	wantCommit(t, d, clash, 0, api.ErrClash)
	wantCommit(t, d, writer, 0, api.ErrDown)
	wantCommit(t, d, reader, 3, api.OK)
	if n := d.Tidy(); n != 2 {
		t.Errorf("Tidy without power: forgets %d, want 2", n)
	}
	wantState(t, d, 4, 1, 2, pairs{{Key: "a", Value: "4"}, {Key: "b", Value: "2"}})
}

// TestD3FailCounts has each step at which the power can go off, of commits and flushes alone.
func TestD3FailCounts(t *testing.T) {
	for n := range 6 {
		d := fresh(t, 100)
		d.Fail(n)
		for i := range n + 2 {
			var err error
			if i%2 == 0 {
				err = commitAlone(d)
			} else {
				err = d.Flush()
			}
			if i < n {
				wantErr(t, "a step ahead", err, api.OK)
			} else {
				wantErr(t, "a step that fails", err, api.ErrDown)
			}
		}
		if top := (n + 1) / 2; d.Top() != top || d.Safe() != n/2 {
			t.Errorf("Fail of %d: Top %d, Safe %d", n, d.Top(), d.Safe())
		}
	}
}

// commitAlone takes one step of the log, beside others that are none.
func commitAlone(d *desk.Desk) error {
	if id, err := d.Begin(); err == nil {
		d.Abort(id)
	}
	if id, err := d.Begin(); err == nil {
		d.Get(id, "a")
		d.Commit(id)
	}
	id, err := d.Begin()
	if err != nil {
		return err
	}
	d.Put(id, "a", "x")
	_, err = d.Commit(id)
	return err
}

func TestD3NeverFails(t *testing.T) {
	for _, n := range []int{-1, math.MinInt, math.MaxInt} {
		d := fresh(t, 100)
		d.Fail(0)
		d.Fail(n)
		for range 5 {
			wantErr(t, "Flush", d.Flush(), api.OK)
			wantErr(t, "a commit", commitAlone(d), api.OK)
		}
	}
}

// TestD3Crash has each number of bytes kept: as many commits are left as have all of theirs.
func TestD3Crash(t *testing.T) {
	for keep := -2; keep < 20; keep++ {
		d := three(t)
		id := begin(t, d)
		wantPut(t, d, id, "c", "4", api.OK)
		d.Crash(keep)
		left := 1 + min(max(keep, 0)/7, 2)
		wantThree(t, d, left)
		wantCommit(t, d, id, 0, api.ErrNone)
		d.Crash(0)
		wantThree(t, d, left)
		putAlone(t, d, "d", "5")
		if d.Top() != left+1 || d.Safe() != left {
			t.Errorf("behind Crash of %d: Top %d, Safe %d", keep, d.Top(), d.Safe())
		}
	}
	for _, keep := range []int{math.MinInt, math.MaxInt} {
		d := three(t)
		d.Crash(keep)
		wantThree(t, d, map[bool]int{true: 1, false: 3}[keep < 0])
	}
}

// TestD3CrashEndsAll has none of those open any more, each by each call.
func TestD3CrashEndsAll(t *testing.T) {
	d := fresh(t, 100)
	for range api.MaxOpen {
		wantPut(t, d, begin(t, d), "a", "x", api.OK)
	}
	d.Crash(100)
	wantState(t, d, 0, 0, 0, nil)
	for id := 1; id <= api.MaxOpen; id++ {
		wantGet(t, d, id, "a", "", api.ErrNone)
		wantRange(t, d, id, "", end, nil, api.ErrNone)
		wantPut(t, d, id, "a", "x", api.ErrNone)
		wantDrop(t, d, id, "a", api.ErrNone)
		wantErr(t, "Abort", d.Abort(id), api.ErrNone)
		wantCommit(t, d, id, 0, api.ErrNone)
	}
}

// TestD3CrashForgetsFail has the power on behind it, whether it was off or still to go.
func TestD3CrashForgetsFail(t *testing.T) {
	for n := range 3 {
		d := three(t)
		d.Fail(n)
		for range n % 2 {
			d.Flush()
			d.Flush()
		}
		d.Crash(0)
		for range 4 {
			wantErr(t, "Flush", d.Flush(), api.OK)
			wantErr(t, "a commit", commitAlone(d), api.OK)
		}
	}
}

// TestD3CrashBringsVersionsBack has what Tidy forgot in the log still, with keys that are gone.
func TestD3CrashBringsVersionsBack(t *testing.T) {
	d := three(t)
	dropAlone(t, d, "b")
	dropAlone(t, d, "not there")
	if n := d.Tidy(); n != 4 {
		t.Errorf("Tidy: forgets %d, want 4", n)
	}
	wantState(t, d, 5, 1, 1, pairs{{Key: "a", Value: "3"}})
	d.Crash(100)
	wantState(t, d, 5, 5, 5, pairs{{Key: "a", Value: "3"}})
	if n := d.Tidy(); n != 4 {
		t.Errorf("Tidy behind a crash: forgets %d, want 4", n)
	}
}

// TestD3TidyOfNumbers has a table of which nothing is left, but not its number.
func TestD3TidyOfNumbers(t *testing.T) {
	d := fresh(t, 100)
	putAlone(t, d, "a", "1")
	dropAlone(t, d, "a")
	if n := d.Tidy(); n != 2 {
		t.Errorf("Tidy: forgets %d, want 2", n)
	}
	wantState(t, d, 2, 0, 0, nil)
	putAlone(t, d, "a", "3")
	wantState(t, d, 3, 0, 1, pairs{{Key: "a", Value: "3"}})
}

// TestD3TidyAsFarAsSeen has the one that sees least, of those that are open, hold back the rest.
func TestD3TidyAsFarAsSeen(t *testing.T) {
	d := fresh(t, 400)
	var ids []int
	for i := range 5 {
		ids = append(ids, begin(t, d))
		putAlone(t, d, "a", name(i))
	}
	wantTidy := func(want int) {
		t.Helper()
		if n := d.Tidy(); n != want {
			t.Errorf("Tidy: forgets %d, want %d", n, want)
		}
	}
	wantTidy(0)
	wantErr(t, "Abort", d.Abort(ids[1]), api.OK)
	wantTidy(0)
	wantGet(t, d, ids[0], "a", "", api.ErrNone)
	wantCommit(t, d, ids[0], 0, api.ErrClash)
	wantTidy(1)
	wantGet(t, d, ids[2], "a", name(1), api.OK)
	wantGet(t, d, ids[4], "a", name(3), api.OK)
	wantErr(t, "Abort", d.Abort(ids[3]), api.OK)
	wantTidy(0)
	wantCommit(t, d, ids[2], 0, api.ErrClash)
	wantTidy(2)
	wantGet(t, d, ids[4], "a", name(3), api.OK)
	wantErr(t, "Abort", d.Abort(ids[4]), api.OK)
	wantTidy(1)
	wantState(t, d, 5, 0, 1, pairs{{Key: "a", Value: name(4)}})
}
