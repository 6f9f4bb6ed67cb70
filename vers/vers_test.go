package vers_test

import (
	"math"
	"slices"
	"strings"
	"testing"

	"burgage/api"
	"burgage/plain"
	"burgage/vers"
)

type pairs = []api.Pair

// end is above each key that these tests put.
const end = "\xff"

var (
	longKey   = strings.Repeat("k", api.MaxKey)
	longValue = strings.Repeat("v", api.MaxValue)
)

// wrongNumbers are those that neither a version nor a sight can have.
var wrongNumbers = []int{-1, api.MaxSeq + 1, -api.MaxSeq, math.MinInt, math.MaxInt}

func put(t *testing.T, v *vers.Table, key, value string, at int) {
	t.Helper()
	if err := v.Put(key, value, at); err != nil {
		t.Fatalf("Put of %q at %d: %v", key, at, err)
	}
}

func drop(t *testing.T, v *vers.Table, key string, at int) {
	t.Helper()
	if err := v.Drop(key, at); err != nil {
		t.Fatalf("Drop of %q at %d: %v", key, at, err)
	}
}

func wantErr(t *testing.T, name string, err error, want api.Errno) {
	t.Helper()
	if plain.Told(err) != want {
		t.Errorf("%s: tells %v, want %v", name, err, want)
	}
}

func wantGet(t *testing.T, v *vers.Table, key string, at int, want string, told api.Errno) {
	t.Helper()
	if got, err := v.Get(key, at); got != want || plain.Told(err) != told {
		t.Errorf("Get of %q at %d: answers %q %v, want %q %v", key, at, got, err, want, told)
	}
}

func wantRange(t *testing.T, v *vers.Table, low, high string, at int, want pairs, told api.Errno) {
	t.Helper()
	got, err := v.Range(low, high, at)
	if !slices.Equal(got, want) || plain.Told(err) != told {
		t.Errorf("Range of %q, %q at %d: answers %v %v, want %v %v", low, high, at, got, err, want, told)
	}
	if err != nil && got != nil {
		t.Errorf("Range: answers a list that is not nil beside an error")
	}
}

func wantTouched(t *testing.T, v *vers.Table, low, high string, at int, want bool, told api.Errno) {
	t.Helper()
	if got, err := v.Touched(low, high, at); got != want || plain.Told(err) != told {
		t.Errorf("Touched of %q, %q at %d: answers %v %v, want %v %v", low, high, at, got, err, want, told)
	}
}

func wantCollect(t *testing.T, v *vers.Table, at, want int, told api.Errno) {
	t.Helper()
	if got, err := v.Collect(at); got != want || plain.Told(err) != told {
		t.Errorf("Collect at %d: answers %d %v, want %d %v", at, got, err, want, told)
	}
}

func wantSize(t *testing.T, v *vers.Table, size, top int) {
	t.Helper()
	if v.Size() != size || v.Top() != top {
		t.Errorf("Size %d and Top %d, want %d and %d", v.Size(), v.Top(), size, top)
	}
}

func TestV1Empty(t *testing.T) {
	v := vers.New()
	wantSize(t, v, 0, 0)
	wantGet(t, v, "a", 0, "", api.ErrNone)
	wantGet(t, v, "a", api.MaxSeq, "", api.ErrNone)
	wantRange(t, v, "", end, api.MaxSeq, nil, api.OK)
	wantTouched(t, v, "", end, 0, false, api.OK)
	wantCollect(t, v, api.MaxSeq, 0, api.OK)
}

func TestV1SizeAndTop(t *testing.T) {
	v := vers.New()
	put(t, v, "a", "x", 1)
	wantSize(t, v, 1, 1)
	put(t, v, "b", "", 1)
	wantSize(t, v, 2, 1)
	put(t, v, "a", "y", 4)
	wantSize(t, v, 3, 4)
	drop(t, v, "c", 6)
	wantSize(t, v, 4, 6)
	drop(t, v, "a", 6)
	wantSize(t, v, 5, 6)
	put(t, v, "a", "z", api.MaxSeq)
	wantSize(t, v, 6, api.MaxSeq)
	put(t, v, "b", "z", api.MaxSeq)
	wantSize(t, v, 7, api.MaxSeq)
}

// TestV1TablesApart has two tables that know nothing of one another.
func TestV1TablesApart(t *testing.T) {
	v, w := vers.New(), vers.New()
	put(t, v, "a", "x", 5)
	put(t, w, "a", "y", 2)
	wantSize(t, v, 1, 5)
	wantSize(t, w, 1, 2)
	wantGet(t, v, "a", 9, "x", api.OK)
	wantGet(t, w, "a", 9, "y", api.OK)
}

func TestV1Shape(t *testing.T) {
	v := vers.New()
	put(t, v, "a", "x", 5)
	for _, at := range []int{5, 4, 0, -1, api.MaxSeq + 1} {
		for _, key := range []string{"", longKey + "k", strings.Repeat("k", 10000)} {
			wantErr(t, "Put of a wrong key", v.Put(key, "x", at), api.ErrShape)
			wantErr(t, "Drop of a wrong key", v.Drop(key, at), api.ErrShape)
		}
		wantErr(t, "Put of a long value", v.Put("a", longValue+"v", at), api.ErrShape)
		wantErr(t, "Put of a longer value", v.Put(longKey, strings.Repeat("v", 10000), at), api.ErrShape)
	}
	wantSize(t, v, 1, 5)
	wantGet(t, v, "a", api.MaxSeq, "x", api.OK)
}

func TestV1LongestAndAnyBytes(t *testing.T) {
	v := vers.New()
	keys := []string{"\x00", "\x80\xff", "a", longKey, "ü", strings.Repeat("\xff", api.MaxKey)}
	for i, key := range keys {
		put(t, v, key, longValue, i+1)
		wantGet(t, v, key, i+1, longValue, api.OK)
		put(t, v, key, "\x00\xff", i+1)
		wantGet(t, v, key, i+1, "\x00\xff", api.OK)
		put(t, v, key, "", i+1)
		wantGet(t, v, key, i+1, "", api.OK)
	}
	wantSize(t, v, len(keys), len(keys))
}

func TestV1WrongNumber(t *testing.T) {
	v := vers.New()
	for range 2 {
		for _, at := range append([]int{0}, wrongNumbers...) {
			wantErr(t, "Put at a wrong number", v.Put("a", "y", at), api.ErrRange)
			wantErr(t, "Drop at a wrong number", v.Drop("a", at), api.ErrRange)
		}
		put(t, v, "a", "x", 1)
	}
	wantSize(t, v, 1, 1)
	wantGet(t, v, "a", 1, "x", api.OK)
}

// TestV1BehindTop has Top of all keys, and not of the one that is put.
func TestV1BehindTop(t *testing.T) {
	v := vers.New()
	put(t, v, "a", "x", 2)
	drop(t, v, "b", 5)
	for _, key := range []string{"a", "b", "c"} {
		for _, at := range []int{1, 2, 4} {
			wantErr(t, "Put below Top", v.Put(key, "y", at), api.ErrState)
			wantErr(t, "Drop below Top", v.Drop(key, at), api.ErrState)
		}
	}
	wantSize(t, v, 2, 5)
	wantGet(t, v, "a", 5, "x", api.OK)
	put(t, v, "c", "z", 5)
	wantSize(t, v, 3, 5)
}

func TestV1SameNumberGivesWay(t *testing.T) {
	v := vers.New()
	put(t, v, "a", "w", 2)
	put(t, v, "a", "x", 3)
	put(t, v, "b", "b", 3)
	put(t, v, "a", "y", 3)
	wantSize(t, v, 3, 3)
	wantGet(t, v, "a", 3, "y", api.OK)
	wantGet(t, v, "a", 2, "w", api.OK)
	wantGet(t, v, "b", 3, "b", api.OK)
	drop(t, v, "a", 3)
	wantSize(t, v, 3, 3)
	wantGet(t, v, "a", 3, "", api.ErrNone)
	wantGet(t, v, "a", 2, "w", api.OK)
	drop(t, v, "a", 3)
	wantSize(t, v, 3, 3)
	put(t, v, "a", "z", 3)
	wantSize(t, v, 3, 3)
	wantGet(t, v, "a", 3, "z", api.OK)
	wantGet(t, v, "a", api.MaxSeq, "z", api.OK)
}

func TestV2Get(t *testing.T) {
	v := vers.New()
	put(t, v, "a", "x", 3)
	put(t, v, "ab", "other", 3)
	put(t, v, "a", "y", 5)
	drop(t, v, "a", 8)
	put(t, v, "a", "z", api.MaxSeq)
	for _, c := range []struct {
		at   int
		want string
		told api.Errno
	}{
		{0, "", api.ErrNone}, {1, "", api.ErrNone}, {2, "", api.ErrNone}, {3, "x", api.OK}, {4, "x", api.OK},
		{5, "y", api.OK}, {7, "y", api.OK}, {8, "", api.ErrNone}, {9, "", api.ErrNone},
		{api.MaxSeq - 1, "", api.ErrNone}, {api.MaxSeq, "z", api.OK},
	} {
		wantGet(t, v, "a", c.at, c.want, c.told)
	}
	for _, key := range []string{"", "A", "b", "abc", longKey + "k"} {
		wantGet(t, v, key, api.MaxSeq, "", api.ErrNone)
	}
}

func TestV2WrongNumber(t *testing.T) {
	v := vers.New()
	for range 2 {
		for _, at := range wrongNumbers {
			wantGet(t, v, "a", at, "", api.ErrRange)
			wantGet(t, v, "", at, "", api.ErrRange)
			wantRange(t, v, "", end, at, nil, api.ErrRange)
			wantRange(t, v, "b", "a", at, nil, api.ErrRange)
			wantTouched(t, v, "", end, at, false, api.ErrRange)
			wantTouched(t, v, "b", "a", at, false, api.ErrRange)
		}
		put(t, v, "a", "x", 1)
	}
}

func TestV2RangeAtEachNumber(t *testing.T) {
	v := vers.New()
	put(t, v, "b", "b1", 1)
	put(t, v, "a", "a2", 2)
	drop(t, v, "b", 3)
	put(t, v, "c", "c3", 3)
	put(t, v, "b", "b4", 4)
	drop(t, v, "none", 4)
	for at, want := range []pairs{
		nil,
		{{Key: "b", Value: "b1"}},
		{{Key: "a", Value: "a2"}, {Key: "b", Value: "b1"}},
		{{Key: "a", Value: "a2"}, {Key: "c", Value: "c3"}},
		{{Key: "a", Value: "a2"}, {Key: "b", Value: "b4"}, {Key: "c", Value: "c3"}},
		{{Key: "a", Value: "a2"}, {Key: "b", Value: "b4"}, {Key: "c", Value: "c3"}},
	} {
		wantRange(t, v, "", end, at, want, api.OK)
	}
	wantRange(t, v, "", end, api.MaxSeq, pairs{{Key: "a", Value: "a2"}, {Key: "b", Value: "b4"}, {Key: "c", Value: "c3"}}, api.OK)
}

// TestV2RangeBounds has keys that rise by their bytes, not by letters nor by runes.
func TestV2RangeBounds(t *testing.T) {
	rising := []string{"\x00", "A", "Z", "a", "a\x00", "aa", "ab", "b", "\x7f", "\x80", "é", "\xfe"}
	v := vers.New()
	var all pairs
	for _, key := range rising {
		all = append(all, api.Pair{Key: key, Value: "=" + key})
	}
	for _, p := range slices.Backward(all) {
		put(t, v, p.Key, p.Value, 1)
	}
	for i, low := range rising {
		wantRange(t, v, low, "\xff", 1, all[i:], api.OK)
		wantRange(t, v, "", low, 1, all[:i], api.OK)
		for j, high := range rising {
			wantRange(t, v, low, high, 1, all[i:max(i, j)], api.OK)
			wantTouched(t, v, low, high, 0, i < j, api.OK)
			wantTouched(t, v, low, high, 1, false, api.OK)
		}
		wantRange(t, v, low, low+"\x00", 1, all[i:i+1], api.OK)
		wantRange(t, v, low, "", 1, nil, api.OK)
	}
	wantRange(t, v, "ac", "az", 1, nil, api.OK)
	wantRange(t, v, "a0", "b0", 1, all[5:8], api.OK)
	wantRange(t, v, longKey+longKey, "l"+longKey, 1, nil, api.OK)
}

func TestV2Touched(t *testing.T) {
	v := vers.New()
	put(t, v, "a", "x", 3)
	put(t, v, "b", "x", 4)
	drop(t, v, "a", 6)
	put(t, v, "c", "x", 7)
	for _, c := range []struct {
		low, high string
		at        int
		want      bool
	}{
		{"a", "b", 0, true}, {"a", "b", 3, true}, {"a", "b", 5, true}, {"a", "b", 6, false}, {"a", "b", 7, false},
		{"b", "c", 3, true}, {"b", "c", 4, false}, {"a", "c", 5, true}, {"a", "c", 6, false}, {"", end, 6, true},
		{"", end, 7, false}, {"", end, api.MaxSeq, false}, {"a\x00", "c", 4, false}, {"a\x00", "c", 3, true},
		{"b", "a", 0, false}, {"a", "a", 0, false}, {"d", end, 0, false}, {"", "a", 0, false}, {"", "", 0, false},
	} {
		wantTouched(t, v, c.low, c.high, c.at, c.want, api.OK)
	}
}

// TestV2TouchedOneKey has stretches with one key in them, and such as are nearly so.
func TestV2TouchedOneKey(t *testing.T) {
	v := vers.New()
	wantTouched(t, v, "", "\x00", 0, false, api.OK)
	put(t, v, "a\x00", "x", 2)
	wantTouched(t, v, "a", "a\x00", 0, false, api.OK)
	wantTouched(t, v, "a", "a\x01", 1, true, api.OK)
	wantTouched(t, v, "a", "a\x01", 2, false, api.OK)
	wantTouched(t, v, "a\x00", "a\x00\x00", 1, true, api.OK)
	wantTouched(t, v, "a\x00", "a\x00\x00", 2, false, api.OK)
	put(t, v, "a", "x", 3)
	wantTouched(t, v, "a", "a\x00", 2, true, api.OK)
	wantTouched(t, v, "a", "a\x00", 3, false, api.OK)
	wantTouched(t, v, "a\x00", "a\x00\x00", 2, false, api.OK)
	wantTouched(t, v, "b", "b\x00", 0, false, api.OK)
	drop(t, v, "a", 5)
	wantTouched(t, v, "a", "a\x00", 4, true, api.OK)
	wantCollect(t, v, 5, 2, api.OK)
	wantTouched(t, v, "a", "a\x00", 0, false, api.OK)
	for _, at := range wrongNumbers {
		wantTouched(t, v, "a", "a\x00", at, false, api.ErrRange)
	}
}

func TestV3Collect(t *testing.T) {
	v := vers.New()
	put(t, v, "a", "a1", 1)
	put(t, v, "a", "a3", 3)
	put(t, v, "b", "b3", 3)
	put(t, v, "a", "a5", 5)
	drop(t, v, "b", 6)
	put(t, v, "c", "c7", 7)
	wantCollect(t, v, 0, 0, api.OK)
	wantCollect(t, v, 1, 0, api.OK)
	wantCollect(t, v, 2, 0, api.OK)
	wantSize(t, v, 6, 7)
	wantCollect(t, v, 3, 1, api.OK)
	wantSize(t, v, 5, 7)
	wantGet(t, v, "a", 2, "", api.ErrNone)
	wantGet(t, v, "a", 3, "a3", api.OK)
	wantGet(t, v, "a", 5, "a5", api.OK)
	wantCollect(t, v, 3, 0, api.OK)
	wantCollect(t, v, 6, 3, api.OK)
	wantSize(t, v, 2, 7)
	wantGet(t, v, "b", 5, "", api.ErrNone)
	wantRange(t, v, "", end, 6, pairs{{Key: "a", Value: "a5"}}, api.OK)
	wantRange(t, v, "", end, 7, pairs{{Key: "a", Value: "a5"}, {Key: "c", Value: "c7"}}, api.OK)
	wantCollect(t, v, api.MaxSeq, 0, api.OK)
	wantSize(t, v, 2, 7)
}

// TestV3GoneAheadOfOthers has a version that is gone, and is forgotten, with one above the number.
func TestV3GoneAheadOfOthers(t *testing.T) {
	v := vers.New()
	put(t, v, "a", "x", 1)
	drop(t, v, "a", 2)
	drop(t, v, "a", 4)
	put(t, v, "a", "y", 6)
	wantCollect(t, v, 1, 0, api.OK)
	wantCollect(t, v, 2, 2, api.OK)
	wantSize(t, v, 2, 6)
	wantGet(t, v, "a", 1, "", api.ErrNone)
	wantCollect(t, v, 3, 0, api.OK)
	wantCollect(t, v, 5, 1, api.OK)
	wantSize(t, v, 1, 6)
	wantGet(t, v, "a", 6, "y", api.OK)
}

// TestV3TopStays has a table of which all is forgotten, and which goes on.
func TestV3TopStays(t *testing.T) {
	v := vers.New()
	drop(t, v, "a", 5)
	wantCollect(t, v, 4, 0, api.OK)
	wantTouched(t, v, "", end, 4, true, api.OK)
	wantCollect(t, v, 5, 1, api.OK)
	wantSize(t, v, 0, 5)
	wantTouched(t, v, "", end, 0, false, api.OK)
	wantErr(t, "Put below Top", v.Put("a", "x", 4), api.ErrState)
	put(t, v, "a", "x", 5)
	wantSize(t, v, 1, 5)
	wantGet(t, v, "a", 5, "x", api.OK)
	wantCollect(t, v, api.MaxSeq, 0, api.OK)
	put(t, v, "a", "y", 5)
	wantSize(t, v, 1, 5)
	put(t, v, "a", "z", 6)
	wantSize(t, v, 2, 6)
	wantGet(t, v, "a", 5, "y", api.OK)
}

func TestV3WrongNumber(t *testing.T) {
	v := vers.New()
	put(t, v, "a", "x", 1)
	put(t, v, "a", "y", 2)
	for _, at := range wrongNumbers {
		wantCollect(t, v, at, 0, api.ErrRange)
	}
	wantSize(t, v, 2, 2)
	wantCollect(t, v, api.MaxSeq, 1, api.OK)
}

// TestV2FreshMemory has lists that are the caller's, and that neither the table nor another list feels.
func TestV2FreshMemory(t *testing.T) {
	v := vers.New()
	put(t, v, "a", "x", 1)
	put(t, v, "b", "y", 1)
	want := pairs{{Key: "a", Value: "x"}, {Key: "b", Value: "y"}}
	first, _ := v.Range("", end, 1)
	second, _ := v.Range("", end, 1)
	for i := range first {
		first[i] = api.Pair{Key: "zz", Value: "zz"}
	}
	if !slices.Equal(second, want) {
		t.Errorf("a list is written into by another one: %v", second)
	}
	wantRange(t, v, "", end, 1, want, api.OK)
	put(t, v, "a", "new", 1)
	drop(t, v, "b", 2)
	v.Collect(2)
	if !slices.Equal(second, want) {
		t.Errorf("a list is written into by the table: %v", second)
	}
}
