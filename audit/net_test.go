package audit_test

import (
	"slices"
	"testing"

	"burgage/api"
	"burgage/audit"
	"burgage/plot"
	"burgage/tree"
)

// town has two nets with prefixes in one another and addresses in them, and one with nothing.
func town() []api.Pair {
	return row(
		"a/x/00000000=o", "a/x/00000001=o", "a/x/00000007=o", "a/x/00000008=o", "a/x/00000012=o", "a/xa/00000002=o",
		"n/x=o", "n/xa=o", "n/y=o",
		"p/x/0000000008=o", "p/x/0000000028=o", "p/x/0000000029=o", "p/x/0000000832=o", "p/x/0000001231=o", "p/x/abcdef0132=o",
		"p/xa/0000000028=o",
	)
}

func TestU1Prefixes(t *testing.T) {
	l := town()
	wantCheck(t, l, 0, api.OK)
	wantPrefixes(t, l, "x", []api.Prefix{pre(0, 8), pre(0, 28), pre(0, 29), pre(8, 32), pre(18, 31), pre(0xabcdef01, 32)}, api.OK)
	wantPrefixes(t, l, "xa", []api.Prefix{pre(0, 28)}, api.OK)
	wantPrefixes(t, l, "y", nil, api.OK)
	for _, net := range append(wrongNames, "z", "xx", "n/x", "n", "p/x", "x/0000000028", "x/") {
		wantPrefixes(t, l, net, nil, api.ErrNone)
		wantPrefixes(t, nil, net, nil, api.ErrNone)
	}
}

// TestU1PrefixesAreATree has prefixes of all Lens at once, that stand in one another.
func TestU1PrefixesAreATree(t *testing.T) {
	keys, want := []string{"n/x"}, []api.Prefix{}
	for n := range 33 {
		for _, p := range []api.Prefix{cutTo(0, n), cutTo(api.MaxAddr, n)} {
			if n > 4 && !slices.Contains(want, p) {
				keys, want = append(keys, plot.PrefixKey("x", p)), append(want, p)
			}
		}
	}
	got, err := audit.Prefixes(rising(keys...), "x")
	if err != nil || tree.Check(got) != nil || len(got) != 56 {
		t.Fatalf("Prefixes: %v %v", got, err)
	}
	for _, p := range want {
		if !slices.Contains(got, p) {
			t.Errorf("Prefixes: %v is missing", p)
		}
	}
}

// full makes the keys of n prefixes of a net, of Len 32.
func full(net string, n int) []string {
	var keys []string
	for i := range n {
		keys = append(keys, plot.PrefixKey(net, pre(i, 32)))
	}
	return keys
}

func TestU1PrefixesFull(t *testing.T) {
	keys := append(full("x", api.MaxTree), full("y", api.MaxTree+1)...)
	l := rising(append(keys, "n/x", "n/y", "n/z")...)
	wantCheck(t, l, 0, api.OK)
	if got, err := audit.Prefixes(l, "x"); len(got) != api.MaxTree || err != nil {
		t.Errorf("Prefixes: %v %v", got, err)
	}
	wantPrefixes(t, l, "y", nil, api.ErrFull)
	wantPrefixes(t, l, "z", nil, api.OK)
	wantPrefixes(t, l, "w", nil, api.ErrNone)
	// Errors of Check come ahead of it.
	l[0].Value = "O"
	wantPrefixes(t, l, "y", nil, api.ErrSyntax)
	wantPrefixes(t, l, "w", nil, api.ErrSyntax)
	wantUse(t, l, "y", pre(3, 32), 0, 0, api.ErrSyntax)
	l[0].Value = "o"
	// More than MaxTree are nothing to Use.
	wantUse(t, l, "y", pre(3, 32), 0, 1, api.OK)
}

func TestU1Use(t *testing.T) {
	l := town()
	for _, c := range []struct {
		net        string
		p          api.Prefix
		taken, all int
	}{
		// 0 is the first one of these, and not usable; of the Len 29, 7 is the last one.
		{"x", pre(0, 8), 4, 1<<24 - 2},
		{"x", pre(0, 28), 3, 14},
		{"x", pre(0, 29), 1, 6},
		{"x", pre(8, 32), 1, 1},
		{"x", pre(18, 31), 1, 2},
		{"x", pre(0xabcdef01, 32), 0, 1},
		{"xa", pre(0, 28), 1, 14},
	} {
		wantUse(t, l, c.net, c.p, c.taken, c.all, api.OK)
	}
}

func TestU1UseNone(t *testing.T) {
	l := town()
	for _, c := range []struct {
		net string
		p   api.Prefix
	}{
		{"x", pre(0, 27)}, {"x", pre(0, 30)}, {"x", pre(8, 29)}, {"x", pre(16, 28)}, {"x", pre(1, 32)}, {"x", pre(0, 0)},
		{"xa", pre(0, 29)}, {"y", pre(0, 28)}, {"z", pre(0, 28)}, {"", pre(0, 28)}, {"X", pre(0, 28)},
	} {
		wantUse(t, l, c.net, c.p, 0, 0, api.ErrNone)
		wantUse(t, nil, c.net, c.p, 0, 0, api.ErrNone)
	}
	for _, net := range append(wrongNames, "z", "n/x", "p/x", "x/") {
		wantUse(t, l, net, pre(0, 28), 0, 0, api.ErrNone)
	}
	for _, p := range wrongPrefixes {
		wantUse(t, l, "x", p, 0, 0, api.ErrNone)
		wantUse(t, l, "z", p, 0, 0, api.ErrNone)
	}
}

// TestU1UseOfEachLen has the first two and the last two addresses of a prefix placed, and one on each side of it.
func TestU1UseOfEachLen(t *testing.T) {
	for n := range 33 {
		p := cutTo(0x5a5a5a5a, n)
		size := 1 << (32 - n)
		keys := []string{"n/x", plot.PrefixKey("x", p)}
		if n > 0 {
			keys = append(keys, plot.PrefixKey("x", pre(0, 0)))
		}
		in := 0
		for _, a := range []int{p.Addr - 1, p.Addr, p.Addr + 1, p.Addr + size - 2, p.Addr + size - 1, p.Addr + size} {
			if key := plot.AddrKey("x", a); a >= 0 && a <= api.MaxAddr && !slices.Contains(keys, key) {
				keys = append(keys, key)
				if a >= p.Addr && a < p.Addr+size {
					in++
				}
			}
		}
		taken, all := in-2, size-2
		if n > 30 {
			taken, all = in, size
		}
		wantUse(t, rising(keys...), "x", p, taken, all, api.OK)
	}
}

// placed makes the keys of n addresses of a net, from one on.
func placed(net string, n, from int) []string {
	var keys []string
	for i := range n {
		keys = append(keys, plot.AddrKey(net, from+i))
	}
	return keys
}

// TestU1UseFull has as many addresses in a prefix as may be, and one more, while as many are beside it, and in another
// net; those that are not usable count as well.
func TestU1UseFull(t *testing.T) {
	wide := pre(256, 24)
	rest := []string{"n/x", "n/y", "p/x/0000000000", "p/y/0000000000", plot.PrefixKey("x", wide), plot.PrefixKey("x", pre(256, 32))}
	rest = append(rest, placed("y", 250, 256)...)
	for _, c := range []struct {
		n, from, taken int
		told           api.Errno
	}{
		{api.MaxUsed, 257, api.MaxUsed, api.OK},
		{api.MaxUsed, 256, api.MaxUsed - 1, api.OK},
		{api.MaxUsed, 312, api.MaxUsed - 1, api.OK},
		{api.MaxUsed + 1, 257, 0, api.ErrFull},
		{api.MaxUsed + 1, 256, 0, api.ErrFull},
		{api.MaxUsed + 1, 311, 0, api.ErrFull},
		{256, 256, 0, api.ErrFull},
	} {
		l := rising(append(placed("x", c.n, c.from), rest...)...)
		all := 254
		if c.told != api.OK {
			all = 0
		}
		wantUse(t, l, "x", wide, c.taken, all, c.told)
		outside := append(placed("x", 250, 0), placed("x", 250, 512)...)
		l = rising(slices.Concat(placed("x", c.n, c.from), rest, outside)...)
		wantUse(t, l, "x", wide, c.taken, all, c.told)
		wantUse(t, l, "x", pre(0, 0), 0, 0, api.ErrFull)
		wantUse(t, l, "y", pre(0, 0), 0, 0, api.ErrFull)
		wantUse(t, l, "y", wide, 0, 0, api.ErrNone)
		// Errors of Check come ahead of it.
		l[len(l)-1].Value = "O"
		wantUse(t, l, "x", wide, 0, 0, api.ErrSyntax)
	}
}

// TestU1NothingIsKept has lists left as they were, and what was answered the caller's own.
func TestU1NothingIsKept(t *testing.T) {
	l := town()
	got, _ := audit.Prefixes(l, "x")
	audit.Check(l)
	audit.Use(l, "x", pre(0, 28))
	if !slices.Equal(l, town()) {
		t.Fatalf("the list was written into: %v", l)
	}
	again, _ := audit.Prefixes(l, "x")
	want := slices.Clone(again)
	for i := range got[:cap(got)] {
		got[:cap(got)][i] = pre(1, 1)
	}
	if !slices.Equal(again, want) {
		t.Error("two answers share memory")
	}
	wantPrefixes(t, l, "x", want, api.OK)
	clear(l)
	if !slices.Equal(again, want) {
		t.Error("an answer shares memory with the list")
	}
	wantPrefixes(t, town(), "x", want, api.OK)
}
