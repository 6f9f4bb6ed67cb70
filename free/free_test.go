package free_test

import (
	"math"
	"math/rand"
	"slices"
	"testing"

	"burgage/api"
	"burgage/free"
	"burgage/plain"
)

type (
	set  = []api.Span
	list = []api.Prefix
)

// whole is the prefix of all addresses.
var whole = api.Prefix{Addr: 0, Len: 0}

var wrongPrefixes = []struct {
	p    api.Prefix
	want api.Errno
}{
	{api.Prefix{Addr: 0, Len: -1}, api.ErrRange},
	{api.Prefix{Addr: 0, Len: 33}, api.ErrRange},
	{api.Prefix{Addr: -1, Len: 32}, api.ErrRange},
	{api.Prefix{Addr: api.MaxAddr + 1, Len: 0}, api.ErrRange},
	{api.Prefix{Addr: math.MaxInt, Len: math.MinInt}, api.ErrRange},
	{api.Prefix{Addr: math.MinInt, Len: math.MaxInt}, api.ErrRange},
	{api.Prefix{Addr: 1, Len: 33}, api.ErrRange},
	{api.Prefix{Addr: 1, Len: 31}, api.ErrShape},
	{api.Prefix{Addr: 1, Len: 0}, api.ErrShape},
	{api.Prefix{Addr: api.MaxAddr, Len: 31}, api.ErrShape},
}

// someLens are numbers that may be a Len, and numbers that may not.
var someLens = []int{math.MinInt, -1, 0, 16, 32, 33, 64, math.MaxInt}

// singles gives n prefixes of one address each, step apart, from first on.
func singles(n, first, step int) list {
	var l list
	for i := range n {
		l = append(l, api.Prefix{Addr: first + i*step, Len: 32})
	}
	return l
}

func wantSpans(t *testing.T, name string, got set, err error, want set) {
	t.Helper()
	if err != nil || !slices.Equal(got, want) {
		t.Errorf("%s: answers %v %v, want %v", name, got, err, want)
	}
}

func wantPrefixes(t *testing.T, name string, got list, err error, want list) {
	t.Helper()
	if err != nil || !slices.Equal(got, want) {
		t.Errorf("%s: answers %v %v, want %v", name, got, err, want)
	}
}

// wantPrefix holds a prefix to what is wanted; beside an error it must be all 0.
func wantPrefix(t *testing.T, name string, got api.Prefix, err error, want api.Prefix, told api.Errno) {
	t.Helper()
	if plain.Told(err) != told || got != want {
		t.Errorf("%s: answers %v %v, want %v %v", name, got, err, want, told)
	}
}

func wantMany(t *testing.T, name string, got int, err error, want int, told api.Errno) {
	t.Helper()
	if plain.Told(err) != told || got != want {
		t.Errorf("%s: answers %v %v, want %v %v", name, got, err, want, told)
	}
}

// wantErr holds all calls to the error of Gaps, whatever n they are given.
func wantErr(t *testing.T, p api.Prefix, l list, want api.Errno) {
	t.Helper()
	gaps, err := free.Gaps(p, l)
	if plain.Told(err) != want || gaps != nil {
		t.Errorf("Gaps of %v and %v: answers %v %v, want %v", p, l, gaps, err, want)
	}
	wantBlocksErr(t, p, l, want)
	for _, n := range someLens {
		first, err := free.First(p, l, n)
		wantPrefix(t, "First", first, err, whole, want)
		many, err := free.Many(p, l, n)
		wantMany(t, "Many", many, err, 0, want)
	}
}

// wantBlocksErr holds Blocks, and Best that says its errors first, to an error.
func wantBlocksErr(t *testing.T, p api.Prefix, l list, want api.Errno) {
	t.Helper()
	blocks, err := free.Blocks(p, l)
	if plain.Told(err) != want || blocks != nil {
		t.Errorf("Blocks of %v and %v: answers %v %v, want %v", p, l, blocks, err, want)
	}
	for _, n := range someLens {
		best, err := free.Best(p, l, n)
		wantPrefix(t, "Best", best, err, whole, want)
	}
}

func TestF1GapsAndBlocks(t *testing.T) {
	small := api.Prefix{Addr: 16, Len: 28}
	last := api.Prefix{Addr: api.MaxAddr, Len: 32}
	for _, c := range []struct {
		name   string
		p      api.Prefix
		l      list
		gaps   set
		blocks list
	}{
		{"none taken", small, nil, set{{Low: 16, High: 31}}, list{small}},
		{"an empty list", small, list{}, set{{Low: 16, High: 31}}, list{small}},
		{"all of all", whole, nil, set{{Low: 0, High: api.MaxAddr}}, list{whole}},
		{"a single one", last, nil, set{{Low: api.MaxAddr, High: api.MaxAddr}}, list{last}},
		{"itself taken", small, list{small}, nil, nil},
		{"one above it taken", small, list{{Addr: 0, Len: 8}}, nil, nil},
		{"all taken", last, list{whole}, nil, nil},
		{"both halves taken", small, list{{Addr: 24, Len: 29}, {Addr: 16, Len: 29}}, nil, nil},
		{"beside it taken", small, list{{Addr: 0, Len: 28}, {Addr: 32, Len: 27}, last}, set{{Low: 16, High: 31}}, list{small}},
		{"the first taken", small, list{{Addr: 16, Len: 32}}, set{{Low: 17, High: 31}},
			list{{Addr: 17, Len: 32}, {Addr: 18, Len: 31}, {Addr: 20, Len: 30}, {Addr: 24, Len: 29}}},
		{"the last taken", small, list{{Addr: 31, Len: 32}}, set{{Low: 16, High: 30}},
			list{{Addr: 16, Len: 29}, {Addr: 24, Len: 30}, {Addr: 28, Len: 31}, {Addr: 30, Len: 32}}},
		{"in any order, twice and in one another", small,
			list{{Addr: 28, Len: 31}, {Addr: 20, Len: 31}, {Addr: 28, Len: 31}, {Addr: 20, Len: 30}, {Addr: 21, Len: 32}},
			set{{Low: 16, High: 19}, {Low: 24, High: 27}, {Low: 30, High: 31}},
			list{{Addr: 16, Len: 30}, {Addr: 24, Len: 30}, {Addr: 30, Len: 31}}},
		{"one half of all", whole, list{{Addr: 0, Len: 1}}, set{{Low: 1 << 31, High: api.MaxAddr}}, list{{Addr: 1 << 31, Len: 1}}},
	} {
		gaps, err := free.Gaps(c.p, c.l)
		wantSpans(t, "Gaps, "+c.name, gaps, err, c.gaps)
		blocks, err := free.Blocks(c.p, c.l)
		wantPrefixes(t, "Blocks, "+c.name, blocks, err, c.blocks)
	}
}

func TestF1MostGaps(t *testing.T) {
	p := api.Prefix{Addr: 256, Len: 25}
	got, err := free.Gaps(p, singles(api.MaxTree, 257, 2))
	want := set{}
	for i := range api.MaxTree {
		want = append(want, api.Span{Low: 256 + 2*i, High: 256 + 2*i})
	}
	want = append(want, api.Span{Low: 256 + 2*api.MaxTree, High: 383})
	wantSpans(t, "Gaps between as many as may be", got, err, want)
}

func TestF1WrongPrefix(t *testing.T) {
	long := singles(api.MaxTree+1, 0, 2)
	for _, w := range wrongPrefixes {
		wantErr(t, w.p, nil, w.want)
		wantErr(t, w.p, list{whole}, w.want)
		wantErr(t, w.p, list{{Addr: 1, Len: 31}, {Addr: 0, Len: 33}}, w.want)
		wantErr(t, w.p, list{{Addr: 0, Len: 33}, {Addr: 1, Len: 31}}, w.want)
		wantErr(t, w.p, long, w.want)
	}
}

func TestF1Full(t *testing.T) {
	long := singles(api.MaxTree+1, 0, 1)
	wantErr(t, whole, long, api.ErrFull)
	long[0] = api.Prefix{Addr: 0, Len: 33}
	wantErr(t, whole, long, api.ErrFull)
	wantErr(t, whole, slices.Repeat(list{whole}, api.MaxTree+1), api.ErrFull)
	wantErr(t, whole, slices.Repeat(list{whole}, 300), api.ErrFull)
	got, err := free.Gaps(whole, slices.Repeat(list{{Addr: 0, Len: 1}}, api.MaxTree))
	wantSpans(t, "Gaps of as many as may be", got, err, set{{Low: 1 << 31, High: api.MaxAddr}})
}

func TestF1WrongPrefixOfTheList(t *testing.T) {
	small := api.Prefix{Addr: 16, Len: 28}
	for _, w := range wrongPrefixes {
		for _, p := range (list{whole, small}) {
			wantErr(t, p, list{w.p}, w.want)
			wantErr(t, p, list{p, w.p, p}, w.want)
			wantErr(t, p, append(singles(api.MaxTree-1, 0, 2), w.p), w.want)
		}
	}
	shape, outside := api.Prefix{Addr: 1, Len: 31}, api.Prefix{Addr: 0, Len: 33}
	wantErr(t, whole, list{shape, outside}, api.ErrShape)
	wantErr(t, whole, list{outside, shape}, api.ErrRange)
}

// scattered takes single addresses out of all of them: without the last one 197 blocks stay, of which one
// has each Len from 7 on that last may be; with it that block falls into one of each greater Len.
func scattered(last int) list {
	l := singles(1, 0, 1)
	for _, n := range []int{1, 2, 3, 4, 5, 6, last} {
		l = append(l, api.Prefix{Addr: 1 << (32 - n), Len: 32})
	}
	return l
}

func TestF1MostBlocks(t *testing.T) {
	got, err := free.Blocks(whole, scattered(28))
	if err != nil || len(got) != api.MaxCover {
		t.Errorf("Blocks: %d of them, %v, want %d", len(got), err, api.MaxCover)
	}
	for _, n := range []int{27, 26, 7} {
		wantBlocksErr(t, whole, scattered(n), api.ErrFull)
	}
	best, err := free.Best(whole, scattered(28), 0)
	wantPrefix(t, "Best of the most blocks", best, err, whole, api.ErrNone)
	best, err = free.Best(whole, scattered(28), 32)
	wantPrefix(t, "Best of the most blocks", best, err, api.Prefix{Addr: 1, Len: 32}, api.OK)
	best, err = free.Best(whole, scattered(28), 33)
	wantPrefix(t, "Best of the most blocks", best, err, whole, api.ErrRange)
}

// TestF2NotFull holds First and Many to answering where Blocks are too many: theirs are the errors of Gaps.
func TestF2NotFull(t *testing.T) {
	l := scattered(7)
	got, err := free.First(whole, l, 2)
	wantPrefix(t, "First", got, err, api.Prefix{Addr: 3 << 30, Len: 2}, api.OK)
	got, err = free.First(whole, l, 1)
	wantPrefix(t, "First", got, err, whole, api.ErrNone)
	got, err = free.First(whole, l, 33)
	wantPrefix(t, "First", got, err, whole, api.ErrRange)
	many, err := free.Many(whole, l, 32)
	wantMany(t, "Many", many, err, 1<<32-len(l), api.OK)
	many, err = free.Many(whole, l, 33)
	wantMany(t, "Many", many, err, 0, api.ErrRange)
	many, err = free.Many(whole, singles(api.MaxTree, 1<<20, 1<<26), 32)
	wantMany(t, "Many", many, err, 1<<32-api.MaxTree, api.OK)
}

func TestF2Lens(t *testing.T) {
	for _, p := range (list{whole, {Addr: 1 << 31, Len: 1}, {Addr: 16, Len: 28}, {Addr: api.MaxAddr, Len: 32}}) {
		for _, l := range []list{nil, {p}, {{Addr: 2, Len: 32}}} {
			for _, n := range []int{math.MinInt, -1, p.Len - 1, 33, 63, 64, 65, math.MaxInt} {
				got, err := free.First(p, l, n)
				wantPrefix(t, "First", got, err, whole, api.ErrRange)
				got, err = free.Best(p, l, n)
				wantPrefix(t, "Best", got, err, whole, api.ErrRange)
				many, err := free.Many(p, l, n)
				wantMany(t, "Many", many, err, 0, api.ErrRange)
			}
		}
		for n := p.Len; n <= 32; n++ {
			got, err := free.First(p, nil, n)
			wantPrefix(t, "First", got, err, api.Prefix{Addr: p.Addr, Len: n}, api.OK)
			got, err = free.Best(p, nil, n)
			wantPrefix(t, "Best", got, err, api.Prefix{Addr: p.Addr, Len: n}, api.OK)
			many, err := free.Many(p, nil, n)
			wantMany(t, "Many", many, err, 1<<(n-p.Len), api.OK)
			got, err = free.First(p, list{p}, n)
			wantPrefix(t, "First", got, err, whole, api.ErrNone)
			got, err = free.Best(p, list{p}, n)
			wantPrefix(t, "Best", got, err, whole, api.ErrNone)
			many, err = free.Many(p, list{whole}, n)
			wantMany(t, "Many", many, err, 0, api.OK)
		}
	}
}

func TestF2Found(t *testing.T) {
	p := api.Prefix{Addr: 32, Len: 27}
	// What is free: 32 to 39, 42 to 47, 50 to 55, 57 to 63, and so the blocks 32/29, 42/31, 44/30, 50/31,
	// 52/30, 57/32, 58/31, 60/30.
	l := list{{Addr: 56, Len: 32}, {Addr: 48, Len: 31}, {Addr: 40, Len: 31}, {Addr: 40, Len: 32}, {Addr: 0, Len: 27}}
	for _, c := range []struct {
		n, first, best, many int
		told                 api.Errno
	}{
		{32, 32, 57, 8 + 6 + 6 + 7, api.OK},
		{31, 32, 42, 4 + 3 + 3 + 3, api.OK},
		{30, 32, 44, 2 + 1 + 1 + 1, api.OK},
		{29, 32, 32, 1, api.OK},
		{28, 0, 0, 0, api.ErrNone},
		{27, 0, 0, 0, api.ErrNone},
	} {
		wantFirst, wantBest := api.Prefix{Addr: c.first, Len: c.n}, api.Prefix{Addr: c.best, Len: c.n}
		if c.told != api.OK {
			wantFirst, wantBest = whole, whole
		}
		got, err := free.First(p, l, c.n)
		wantPrefix(t, "First", got, err, wantFirst, c.told)
		got, err = free.Best(p, l, c.n)
		wantPrefix(t, "Best", got, err, wantBest, c.told)
		many, err := free.Many(p, l, c.n)
		wantMany(t, "Many", many, err, c.many, api.OK)
	}
}

// TestF2BestIsNotFirst has a block of the very Len behind greater ones, and two of one Len that are greater.
func TestF2BestIsNotFirst(t *testing.T) {
	p := api.Prefix{Addr: 0, Len: 27}
	l := list{{Addr: 8, Len: 29}, {Addr: 20, Len: 30}}
	got, err := free.Best(p, l, 30)
	wantPrefix(t, "Best of the very Len", got, err, api.Prefix{Addr: 16, Len: 30}, api.OK)
	got, err = free.Best(p, l, 32)
	wantPrefix(t, "Best in a greater one", got, err, api.Prefix{Addr: 16, Len: 32}, api.OK)
	got, err = free.Best(p, l, 29)
	wantPrefix(t, "Best of two", got, err, api.Prefix{Addr: 0, Len: 29}, api.OK)
	got, err = free.First(p, l, 30)
	wantPrefix(t, "First", got, err, api.Prefix{Addr: 0, Len: 30}, api.OK)
}

// TestF2Aligned has gaps that are long enough, in which a prefix has no place for where it would begin.
func TestF2Aligned(t *testing.T) {
	p, l := api.Prefix{Addr: 0, Len: 28}, list{{Addr: 0, Len: 32}, {Addr: 7, Len: 32}, {Addr: 8, Len: 32}, {Addr: 15, Len: 32}}
	got, err := free.First(p, l, 30)
	wantPrefix(t, "First", got, err, whole, api.ErrNone)
	got, err = free.Best(p, l, 30)
	wantPrefix(t, "Best", got, err, whole, api.ErrNone)
	many, err := free.Many(p, l, 30)
	wantMany(t, "Many", many, err, 0, api.OK)
	many, err = free.Many(p, l, 31)
	wantMany(t, "Many", many, err, 4, api.OK)
}

// world is how many addresses the comparisons have, from base on; both ends of all addresses are tried.
const (
	worldBits = 6
	world     = 1 << worldBits
)

// worldPrefix gives a prefix of the world with at most so many bits behind its Len.
func worldPrefix(r *rand.Rand, base, bits int) api.Prefix {
	b := r.Intn(bits + 1)
	return api.Prefix{Addr: (base + r.Intn(world)) >> b << b, Len: 32 - b}
}

// size is how many addresses a prefix has.
func size(p api.Prefix) int {
	return 1 << (32 - p.Len)
}

// isFree says, address by address, whether no prefix of l has one of q.
func isFree(q api.Prefix, l list) bool {
	for a := q.Addr; a < q.Addr+size(q); a++ {
		for _, t := range l {
			if a >= t.Addr && a < t.Addr+size(t) {
				return false
			}
		}
	}
	return true
}

// countedGaps makes the set of free addresses, one by one.
func countedGaps(p api.Prefix, l list) set {
	var s set
	for a := p.Addr; a < p.Addr+size(p); a++ {
		switch {
		case !isFree(api.Prefix{Addr: a, Len: 32}, l):
		case len(s) > 0 && s[len(s)-1].High == a-1:
			s[len(s)-1].High = a
		default:
			s = append(s, api.Span{Low: a, High: a})
		}
	}
	return s
}

// countedBlocks gives p if it is free, else what its halves give: no two of these could be one.
func countedBlocks(p api.Prefix, l list) list {
	if isFree(p, l) {
		return list{p}
	}
	if p.Len == 32 {
		return nil
	}
	low := api.Prefix{Addr: p.Addr, Len: p.Len + 1}
	high := api.Prefix{Addr: p.Addr + size(low), Len: p.Len + 1}
	return append(countedBlocks(low, l), countedBlocks(high, l)...)
}

// countedFree gives all free prefixes of Len n within p, rising.
func countedFree(p api.Prefix, l list, n int) list {
	var all list
	for a := p.Addr; a < p.Addr+size(p); a += 1 << (32 - n) {
		if q := (api.Prefix{Addr: a, Len: n}); isFree(q, l) {
			all = append(all, q)
		}
	}
	return all
}

// countedBest goes down from n to each Len that a block may have.
func countedBest(blocks list, n int) (api.Prefix, api.Errno) {
	for m := n; m >= 0; m-- {
		for _, b := range blocks {
			if b.Len == m {
				return api.Prefix{Addr: b.Addr, Len: n}, api.OK
			}
		}
	}
	return whole, api.ErrNone
}

func compareLens(t *testing.T, p api.Prefix, l, blocks list) {
	t.Helper()
	for n := p.Len; n <= 32; n++ {
		all := countedFree(p, l, n)
		many, err := free.Many(p, l, n)
		wantMany(t, "Many", many, err, len(all), api.OK)
		want, told := whole, api.ErrNone
		if len(all) > 0 {
			want, told = all[0], api.OK
		}
		got, err := free.First(p, l, n)
		wantPrefix(t, "First", got, err, want, told)
		want, told = countedBest(blocks, n)
		got, err = free.Best(p, l, n)
		wantPrefix(t, "Best", got, err, want, told)
	}
}

func TestF2AsCounted(t *testing.T) {
	r := rand.New(rand.NewSource(6))
	for range 1500 {
		base := []int{0, 0x0a000040, 1<<31 - world, api.MaxAddr + 1 - world}[r.Intn(4)]
		p, few := worldPrefix(r, base, worldBits), r.Intn(worldBits)
		var l list
		for range r.Intn(12) {
			l = append(l, worldPrefix(r, base, few))
		}
		gaps, err := free.Gaps(p, l)
		wantSpans(t, "Gaps", gaps, err, countedGaps(p, l))
		want := countedBlocks(p, l)
		blocks, err := free.Blocks(p, l)
		wantPrefixes(t, "Blocks", blocks, err, want)
		compareLens(t, p, l, want)
		if t.Failed() {
			t.Fatalf("within %v, without %v", p, l)
		}
	}
}

// TestF1Memory holds every call to leaving its argument alone, and to memory of its own.
func TestF1Memory(t *testing.T) {
	behind := api.Prefix{Addr: 77, Len: 77}
	taken := list{{Addr: 40, Len: 31}, {Addr: 32, Len: 32}, {Addr: 40, Len: 31}, behind}
	given, want := taken[:3], slices.Clone(taken)
	p := api.Prefix{Addr: 32, Len: 27}
	gaps, err := free.Gaps(p, given)
	again, _ := free.Gaps(p, given)
	clear(gaps[:cap(gaps)])
	wantSpans(t, "Gaps that were told again", again, err, set{{Low: 33, High: 39}, {Low: 42, High: 63}})
	blocks, err := free.Blocks(p, given)
	same, _ := free.Blocks(p, given)
	kept := slices.Clone(same)
	clear(blocks[:cap(blocks)])
	wantPrefixes(t, "Blocks that were told again", same, err, kept)
	none, _ := free.Blocks(p, nil)
	clear(none[:cap(none)])
	for n := p.Len; n <= 32; n++ {
		free.First(p, given, n)
		free.Best(p, given, n)
		free.Many(p, given, n)
	}
	if !slices.Equal(taken, want) {
		t.Errorf("the list that was handed in is written into: %v", taken)
	}
}
