package audit_test

import (
	"math"
	"slices"
	"strings"
	"testing"

	"burgage/api"
	"burgage/audit"
	"burgage/plain"
	"burgage/plot"
)

var wrongNames = []string{
	"", "abcdefghi", strings.Repeat("a", 300), "A", "aB", "a1", "1", "a b", " a", "a ", "a/", "/a", "a/b", "a-b",
	"`", "{", "a\x00", "\n", "a\n", "ä", "\xff", "a\xe1", "ａ",
}

// wrongPrefixes may not be, so that none of them is ever there.
var wrongPrefixes = []api.Prefix{
	{Addr: 0, Len: -1}, {Addr: 0, Len: 33}, {Addr: 0, Len: 280}, {Addr: -1, Len: 28}, {Addr: 1 << 32, Len: 28}, {Addr: 1, Len: 28},
	{Addr: api.MaxAddr, Len: 31}, {Addr: math.MinInt, Len: math.MaxInt}, {Addr: math.MaxInt, Len: math.MinInt},
}

// row makes pairs of texts, each a key with its value behind a =.
func row(texts ...string) []api.Pair {
	var l []api.Pair
	for _, text := range texts {
		key, value, _ := strings.Cut(text, "=")
		l = append(l, api.Pair{Key: key, Value: value})
	}
	return l
}

// rising makes pairs of keys, in their order, whose values are all the same name.
func rising(keys ...string) []api.Pair {
	keys = slices.Sorted(slices.Values(keys))
	var l []api.Pair
	for _, key := range keys {
		l = append(l, api.Pair{Key: key, Value: "o"})
	}
	return l
}

func pre(a, n int) api.Prefix { return api.Prefix{Addr: a, Len: n} }

// cutTo gives the prefix of Len n that has an address.
func cutTo(a, n int) api.Prefix { return pre(a>>(32-n)<<(32-n), n) }

func wantCheck(t *testing.T, l []api.Pair, place int, told api.Errno) {
	t.Helper()
	if got, err := audit.Check(l); got != place || plain.Told(err) != told {
		t.Errorf("Check of %.2000q: answers %d %v, want %d %v", l, got, err, place, told)
	}
}

func wantPrefixes(t *testing.T, l []api.Pair, net string, want []api.Prefix, told api.Errno) {
	t.Helper()
	got, err := audit.Prefixes(l, net)
	if !slices.Equal(got, want) || plain.Told(err) != told {
		t.Errorf("Prefixes of %.2000q, %q: answers %v %v, want %v %v", l, net, got, err, want, told)
	}
}

func wantUse(t *testing.T, l []api.Pair, net string, p api.Prefix, taken, all int, told api.Errno) {
	t.Helper()
	gotTaken, gotAll, err := audit.Use(l, net, p)
	if gotTaken != taken || gotAll != all || plain.Told(err) != told {
		t.Errorf("Use of %.2000q, %q, %v: answers %d %d %v, want %d %d %v", l, net, p, gotTaken, gotAll, err, taken, all, told)
	}
}

// wantWrong holds all three calls to one error of Check, whatever net and prefix are asked for.
func wantWrong(t *testing.T, l []api.Pair, place int, told api.Errno) {
	t.Helper()
	wantCheck(t, l, place, told)
	for _, net := range []string{"x", "y", "", "X"} {
		wantPrefixes(t, l, net, nil, told)
		for _, p := range []api.Prefix{pre(0, 28), pre(1, 28), pre(0, 33)} {
			wantUse(t, l, net, p, 0, 0, told)
		}
	}
}

func TestU1CheckInOrder(t *testing.T) {
	for _, l := range [][]api.Pair{
		nil,
		{},
		row("n/x=o"),
		row("n/a=o", "n/aa=o", "n/ab=p", "n/abcdefgh=zzzzzzzz", "n/b=a"),
		row("n/x=o", "p/x/0000000000=o"),
		row("n/x=o", "p/x/0000000028=joe", "p/x/0000000032=sue", "p/x/0000001028=joe"),
		row("a/x/00000003=o", "n/x=o", "p/x/0000000028=o"),
		row("a/x/00000000=o", "a/x/0000000f=p", "n/x=q", "p/x/0000000028=r"),
		row("a/abcdefgh/ffffffff=o", "n/abcdefgh=o", "p/abcdefgh/ffffffff32=o"),
		row("a/x/ffffffff=o", "n/x=o", "p/x/0000000000=o"),
		row("a/x/00000001=o", "a/xa/00000011=o", "n/x=o", "n/xa=o", "p/x/0000000028=o", "p/xa/0000001028=o"),
		row("a/n/00000001=n", "n/n=n", "p/n/0000000031=n", "p/n/0000000132=n"),
	} {
		wantCheck(t, l, 0, api.OK)
	}
}

// TestU1BehindTheLength has what lies behind a list's length in its memory not read.
func TestU1BehindTheLength(t *testing.T) {
	l := row("a/x/00000003=o", "n/x=o", "p/x/0000000028=o", "n/x=O")
	wantCheck(t, l[:3], 0, api.OK)
	wantPrefixes(t, l[:3], "x", []api.Prefix{pre(0, 28)}, api.OK)
	wantUse(t, l[:3], "x", pre(0, 28), 1, 14, api.OK)
	wantWrong(t, l[:2], 0, api.ErrState)
	wantWrong(t, l[:1], 0, api.ErrNone)
	wantCheck(t, l[:0], 0, api.OK)
}

func TestU1CheckShape(t *testing.T) {
	for _, c := range []struct {
		l     []api.Pair
		place int
	}{
		{row("n/x=o", "n/x=o"), 1},
		{row("n/x=o", "n/x=p"), 1},
		{row("n/x=o", "n/w=o"), 1},
		{row("n/xa=o", "n/x=o"), 1},
		{row("n/b=o", "n/ab=o"), 1},
		{row("n/a=o", "n/b=o", "n/b=o", "n/a=o"), 2},
		{row("n/x=o", "a/x/00000001=o", "p/x/0000000028=o"), 1},
		{row("n/x=o", "p/x/0000001028=o", "p/x/0000000028=o"), 2},
		{row("n/x=o", "p/x/0000000028=o", "p/x/0000000008=o"), 2},
		{row("p/x/0000000028=o", "n/x=o"), 1},
		{row("a/x/0000000a=o", "a/x/00000009=o", "n/x=o", "p/x/0000000028=o"), 1},
		{row("n/a=o", "n/b=o", "n/c=o", "n/d=o", "n/c=o", "n/e=o"), 4},
	} {
		wantWrong(t, c.l, c.place, api.ErrShape)
	}
}

// TestU1CheckShapeByBytes has keys held against each other by bytes, whatever letters they are.
func TestU1CheckShapeByBytes(t *testing.T) {
	wantWrong(t, row("n/x=o", "N/y=o"), 1, api.ErrShape)
	wantWrong(t, row("n/x=o", "n/Y=o"), 1, api.ErrShape)
	wantWrong(t, row("n/x=o", "n/y\xff=o"), 1, api.ErrSyntax)
	wantWrong(t, row("n/x=o", "n/x\x00=o"), 1, api.ErrSyntax)
	wantWrong(t, row("n/x=o", "=o"), 1, api.ErrShape)
}

func TestU1CheckSyntax(t *testing.T) {
	for _, key := range []string{
		"", "n", "n/", "n//", "n/X", "n/x/", "n/x/y", "n/abcdefghi", "n/x ", "n/ x", "x", "m/x", "o/x", "/x", "n/x\n", "n/x1",
		"a", "a/", "a/x", "a/x/", "a/x/0000000", "a/x/000000000", "a/x/0000000028", "a/x/0000000A", "a/x/0000000g", "a/X/00000000",
		"a//00000000", "a/abcdefghi/00000000", "a/x/00000000/", "a/x//0000000", "a/x/+0000000", "a/x/0x000000", "a/x/-0000001",
		"p", "p/", "p/x", "p/x/", "p/x/00000000", "p/x/000000002", "p/x/00000000028", "p/x/0000000033", "p/x/0000000128",
		"p/x/000000002a", "p/x/A000000028", "p/X/0000000028", "p//0000000028", "p/abcdefghi/0000000028", "b/x/00000000", "q/x/0000000028",
		"\xff", strings.Repeat("n/x", 1000),
	} {
		wantWrong(t, []api.Pair{{Key: key, Value: "o"}}, 0, api.ErrSyntax)
		l := rising("a/x/00000000", "n/x", "p/x/0000000028", key)
		wantWrong(t, l, slices.Index(l, api.Pair{Key: key, Value: "o"}), api.ErrSyntax)
	}
}

// TestU1CheckValue has each value that is no name, of each kind of key.
func TestU1CheckValue(t *testing.T) {
	for i := range 3 {
		for _, value := range wrongNames {
			l := row("a/x/00000003=o", "n/x=o", "p/x/0000000028=o")
			l[i].Value = value
			wantWrong(t, l, i, api.ErrSyntax)
		}
		for _, value := range []string{"a", "z", "az", "abcdefgh", "zzzzzzzz"} {
			l := row("a/x/00000003=o", "n/x=o", "p/x/0000000028=o")
			l[i].Value = value
			wantCheck(t, l, 0, api.OK)
		}
	}
}

func TestU1CheckNone(t *testing.T) {
	for _, c := range []struct {
		l     []api.Pair
		place int
	}{
		{row("p/x/0000000028=o"), 0},
		{row("a/x/00000003=o"), 0},
		{row("a/x/00000003=o", "p/x/0000000028=o"), 0},
		{row("n/y=o", "p/x/0000000028=o"), 1},
		{row("n/xa=o", "p/x/0000000028=o"), 1},
		{row("n/x=o", "p/xa/0000000028=o"), 1},
		{row("n/x=o", "p/x/0000000028=o", "p/y/0000000028=o"), 2},
		{row("a/x/00000003=o", "a/y/00000003=o", "n/x=o", "p/x/0000000028=o"), 1},
		{row("a/x/00000003=o", "a/y/00000003=o", "n/x=o", "p/x/0000000028=o", "p/y/0000000028=o"), 1},
		{row("a/n/00000003=o", "p/n/0000000028=o"), 0},
	} {
		wantWrong(t, c.l, c.place, api.ErrNone)
	}
}

func TestU1CheckState(t *testing.T) {
	for _, c := range []struct {
		l     []api.Pair
		place int
	}{
		{row("a/x/00000003=o", "n/x=o"), 0},
		{row("a/x/00000010=o", "n/x=o", "p/x/0000000028=o"), 0},
		{row("a/x/0000000f=o", "n/x=o", "p/x/0000001028=o"), 0},
		{row("a/x/00000003=o", "a/x/00000010=o", "n/x=o", "p/x/0000000028=o"), 1},
		{row("a/x/00000003=o", "n/x=o", "n/y=o", "p/y/0000000028=o"), 0},
		{row("a/x/00000003=o", "n/x=o", "n/xa=o", "p/xa/0000000028=o"), 0},
		{row("a/xa/00000003=o", "n/x=o", "n/xa=o", "p/x/0000000028=o"), 0},
		{row("a/x/00000003=o", "n/x=o", "p/x/0000000032=o", "p/x/0000000232=o", "p/x/0000000430=o"), 0},
	} {
		wantWrong(t, c.l, c.place, api.ErrState)
	}
}

// TestU1CheckStateOfEachLen has an address in, and beside, one prefix of each Len.
func TestU1CheckStateOfEachLen(t *testing.T) {
	for n := range 33 {
		for _, a := range []int{0, 1, 0x7fffffff, 0x80000000, 0xabcdef01, api.MaxAddr} {
			p := cutTo(a, n)
			last := p.Addr + 1<<(32-n) - 1
			for _, b := range []int{a, p.Addr, last, p.Addr - 1, last + 1} {
				if b < 0 || b > api.MaxAddr {
					continue
				}
				l := rising(plot.AddrKey("x", b), plot.NetKey("x"), plot.PrefixKey("x", p))
				if b < p.Addr || b > last {
					wantCheck(t, l, 0, api.ErrState)
				} else {
					wantCheck(t, l, 0, api.OK)
				}
			}
		}
	}
}

// TestU1CheckOrder has pairs of which several things are wrong: the one that the chapter names first is told.
func TestU1CheckOrder(t *testing.T) {
	for _, c := range []struct {
		l     []api.Pair
		place int
		told  api.Errno
	}{
		// Shape ahead of a wrong key, a wrong value, a net that is not there, and a prefix that is not there.
		{row("n/x=o", "n/X=O"), 1, api.ErrShape},
		{row("n/x=o", "n/x=O"), 1, api.ErrShape},
		{row("n/x=o", "a/y/00000003=o"), 1, api.ErrShape},
		{row("n/x=o", "a/x/00000003=o"), 1, api.ErrShape},
		// A wrong value ahead of the two.
		{row("p/x/0000000028=O"), 0, api.ErrSyntax},
		{row("a/x/00000003=O"), 0, api.ErrSyntax},
		{row("a/x/00000003=O", "n/x=o"), 0, api.ErrSyntax},
		// A net ahead of a prefix.
		{row("a/x/00000003=o", "n/y=o"), 0, api.ErrNone},
		// All that is said of one pair ahead of all that is said of the next.
		{row("a/x/00000003=o", "n/x=O"), 0, api.ErrState},
		{row("a/x/00000003=o", "a/x/00000003=o"), 0, api.ErrNone},
		{row("a/x/00000003=o", "n/x=o", "n/x=o"), 0, api.ErrState},
		{row("p/x/0000000028=o", "p/x/0000000028=o"), 0, api.ErrNone},
		{row("n/x=O", "n/x=o"), 0, api.ErrSyntax},
		{row("a/x/00000013=o", "a/y/00000003=o", "n/x=o", "p/x/0000000028=o"), 0, api.ErrState},
		{row("a/x/00000003=o", "a/y/00000003=o", "n/x=O", "p/x/0000000028=o"), 1, api.ErrNone},
	} {
		wantWrong(t, c.l, c.place, c.told)
	}
}

// TestU1CheckStandsThere has nets and prefixes whose own pairs are wrong: they stand in l all the same, so that what
// leans on them is not.
func TestU1CheckStandsThere(t *testing.T) {
	for _, c := range []struct {
		l     []api.Pair
		place int
		told  api.Errno
	}{
		{row("a/x/00000003=o", "n/x=O", "p/x/0000000028=o"), 1, api.ErrSyntax},
		{row("a/x/00000003=o", "n/x=o", "p/x/0000000028=O"), 2, api.ErrSyntax},
		{row("a/x/00000003=o", "p/x/0000000028=o", "n/x=o"), 2, api.ErrShape},
		{row("a/x/00000003=o", "a/x/00000003=o", "n/x=o", "p/x/0000000028=o"), 1, api.ErrShape},
		{row("a/x/00000003=o", "n/x=o", "n/x=o", "p/x/0000000028=o"), 2, api.ErrShape},
		{row("a/x/00000003=o", "n/x=o", "n/y=", "p/x/0000000028=o"), 2, api.ErrSyntax},
		{row("a/x/00000003=o", "n/x=o", "z=o", "p/x/0000000028=o"), 2, api.ErrSyntax},
		{row("a/x/00000003=o", "n/x=o", "z=o", "a/x/00000013=o", "p/x/0000000028=o"), 2, api.ErrSyntax},
	} {
		wantWrong(t, c.l, c.place, c.told)
	}
}

// TestU1CheckMany has a list of very many pairs, of which the last is right, and then wrong.
func TestU1CheckMany(t *testing.T) {
	keys := []string{"n/x"}
	for i := range 60000 {
		keys = append(keys, plot.AddrKey("x", i<<8), plot.PrefixKey("x", pre(i<<8, 24)))
	}
	l := rising(keys...)
	wantCheck(t, l, 0, api.OK)
	l[len(l)-1].Value = ""
	wantCheck(t, l, len(l)-1, api.ErrSyntax)
	l = l[:len(l)-1]
	wantCheck(t, l, 59999, api.ErrState)
}
