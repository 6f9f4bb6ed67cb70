package host_test

import (
	"math"
	"math/rand"
	"slices"
	"testing"

	"burgage/api"
	"burgage/host"
	"burgage/plain"
)

// whole is the prefix of all addresses.
var whole = api.Prefix{Addr: 0, Len: 0}

var wrongPrefixes = []struct {
	p    api.Prefix
	want api.Errno
}{
	{api.Prefix{Addr: 0, Len: -1}, api.ErrRange},
	{api.Prefix{Addr: 0, Len: 33}, api.ErrRange},
	{api.Prefix{Addr: -1, Len: 32}, api.ErrRange},
	{api.Prefix{Addr: -2, Len: 31}, api.ErrRange},
	{api.Prefix{Addr: api.MaxAddr + 1, Len: 0}, api.ErrRange},
	{api.Prefix{Addr: math.MaxInt, Len: math.MinInt}, api.ErrRange},
	{api.Prefix{Addr: math.MinInt, Len: math.MaxInt}, api.ErrRange},
	{api.Prefix{Addr: 1, Len: 33}, api.ErrRange},
	{api.Prefix{Addr: 1, Len: 31}, api.ErrShape},
	{api.Prefix{Addr: 2, Len: 30}, api.ErrShape},
	{api.Prefix{Addr: 1, Len: 0}, api.ErrShape},
	{api.Prefix{Addr: api.MaxAddr, Len: 31}, api.ErrShape},
}

var wrongAddresses = []int{-1, api.MaxAddr + 1, -api.MaxAddr, math.MinInt, math.MaxInt}

// row gives n addresses, step apart, from first on.
func row(n, first, step int) []int {
	var l []int
	for i := range n {
		l = append(l, first+i*step)
	}
	return l
}

// size is how many addresses a prefix has.
func size(p api.Prefix) int {
	return 1 << (32 - p.Len)
}

func wantUsable(t *testing.T, p api.Prefix, want api.Span, told api.Errno) {
	t.Helper()
	if got, err := host.Usable(p); got != want || plain.Told(err) != told {
		t.Errorf("Usable of %v: answers %v %v, want %v %v", p, got, err, want, told)
	}
}

func wantNext(t *testing.T, p api.Prefix, used []int, want int, told api.Errno) {
	t.Helper()
	if got, err := host.Next(p, used); got != want || plain.Told(err) != told {
		t.Errorf("Next of %v and %v: answers %v %v, want %v %v", p, used, got, err, want, told)
	}
}

func wantShare(t *testing.T, p api.Prefix, used []int, taken, all int, told api.Errno) {
	t.Helper()
	gotTaken, gotAll, err := host.Share(p, used)
	if gotTaken != taken || gotAll != all || plain.Told(err) != told {
		t.Errorf("Share of %v and %v: answers %v %v %v, want %v %v %v", p, used, gotTaken, gotAll, err, taken, all, told)
	}
}

// wantErr holds both calls that are given a list to an error, and to nothing beside it.
func wantErr(t *testing.T, p api.Prefix, used []int, want api.Errno) {
	t.Helper()
	wantNext(t, p, used, 0, want)
	wantShare(t, p, used, 0, 0, want)
}

func TestH1UsableOfEachLen(t *testing.T) {
	for n := 0; n <= 32; n++ {
		first := api.Prefix{Addr: 0, Len: n}
		last := api.Prefix{Addr: api.MaxAddr + 1 - size(first), Len: n}
		for _, p := range []api.Prefix{first, last} {
			want := api.Span{Low: p.Addr + 1, High: p.Addr + size(p) - 2}
			if n == 31 || n == 32 {
				want = api.Span{Low: p.Addr, High: p.Addr + size(p) - 1}
			}
			wantUsable(t, p, want, api.OK)
		}
	}
}

func TestH1Usable(t *testing.T) {
	wantUsable(t, whole, api.Span{Low: 1, High: api.MaxAddr - 1}, api.OK)
	wantUsable(t, api.Prefix{Addr: 0x0a000000, Len: 24}, api.Span{Low: 0x0a000001, High: 0x0a0000fe}, api.OK)
	wantUsable(t, api.Prefix{Addr: 8, Len: 29}, api.Span{Low: 9, High: 14}, api.OK)
	wantUsable(t, api.Prefix{Addr: 8, Len: 30}, api.Span{Low: 9, High: 10}, api.OK)
	wantUsable(t, api.Prefix{Addr: 8, Len: 31}, api.Span{Low: 8, High: 9}, api.OK)
	wantUsable(t, api.Prefix{Addr: 8, Len: 32}, api.Span{Low: 8, High: 8}, api.OK)
	wantUsable(t, api.Prefix{Addr: api.MaxAddr, Len: 32}, api.Span{Low: api.MaxAddr, High: api.MaxAddr}, api.OK)
}

func TestH1WrongPrefix(t *testing.T) {
	for _, w := range wrongPrefixes {
		wantUsable(t, w.p, api.Span{}, w.want)
		wantErr(t, w.p, nil, w.want)
		wantErr(t, w.p, []int{1, 2}, w.want)
		wantErr(t, w.p, []int{-1}, w.want)
		wantErr(t, w.p, row(api.MaxUsed+1, 0, 1), w.want)
		wantErr(t, w.p, row(api.MaxUsed+1, -1, -1), w.want)
	}
}

func TestH1NextAndShare(t *testing.T) {
	small := api.Prefix{Addr: 16, Len: 29}
	pair := api.Prefix{Addr: 16, Len: 31}
	single := api.Prefix{Addr: 16, Len: 32}
	for _, c := range []struct {
		p                api.Prefix
		used             []int
		next, taken, all int
		told             api.Errno
	}{
		{small, nil, 17, 0, 6, api.OK},
		{small, []int{}, 17, 0, 6, api.OK},
		{small, []int{17}, 18, 1, 6, api.OK},
		{small, []int{18}, 17, 1, 6, api.OK},
		{small, []int{19, 17}, 18, 2, 6, api.OK},
		{small, []int{19, 18, 17}, 20, 3, 6, api.OK},
		{small, []int{18, 17, 18, 17, 18}, 19, 2, 6, api.OK},
		{small, []int{16, 23}, 17, 0, 6, api.OK},
		{small, []int{15, 24, 0, api.MaxAddr}, 17, 0, 6, api.OK},
		{small, []int{21, 17, 20, 19, 18}, 22, 5, 6, api.OK},
		{small, []int{22, 21, 17, 20, 19, 18}, 0, 6, 6, api.ErrNone},
		{small, []int{16, 17, 18, 19, 20, 21, 22, 23, 24}, 0, 6, 6, api.ErrNone},
		{small, []int{16, 17, 18, 19, 20, 21, 23, 24, 15}, 22, 5, 6, api.OK},
		{pair, nil, 16, 0, 2, api.OK},
		{pair, []int{16}, 17, 1, 2, api.OK},
		{pair, []int{17}, 16, 1, 2, api.OK},
		{pair, []int{17, 16}, 0, 2, 2, api.ErrNone},
		{pair, []int{15, 18}, 16, 0, 2, api.OK},
		{single, nil, 16, 0, 1, api.OK},
		{single, []int{15, 17}, 16, 0, 1, api.OK},
		{single, []int{16, 16}, 0, 1, 1, api.ErrNone},
	} {
		wantNext(t, c.p, c.used, c.next, c.told)
		wantShare(t, c.p, c.used, c.taken, c.all, api.OK)
	}
}

// TestH1BothEnds has the least address and the greatest there is, as answers and as what is used.
func TestH1BothEnds(t *testing.T) {
	wantNext(t, whole, nil, 1, api.OK)
	wantNext(t, whole, []int{0, 1, api.MaxAddr}, 2, api.OK)
	wantShare(t, whole, nil, 0, 1<<32-2, api.OK)
	wantShare(t, whole, []int{0, 1, api.MaxAddr, api.MaxAddr - 1}, 2, 1<<32-2, api.OK)
	zero := api.Prefix{Addr: 0, Len: 32}
	wantNext(t, zero, nil, 0, api.OK)
	wantNext(t, zero, []int{0}, 0, api.ErrNone)
	last := api.Prefix{Addr: api.MaxAddr - 1, Len: 31}
	wantNext(t, last, []int{api.MaxAddr - 1}, api.MaxAddr, api.OK)
	wantNext(t, last, []int{api.MaxAddr, api.MaxAddr - 1}, 0, api.ErrNone)
	wantShare(t, last, []int{api.MaxAddr}, 1, 2, api.OK)
	wantNext(t, api.Prefix{Addr: api.MaxAddr - 3, Len: 30}, []int{api.MaxAddr - 2, api.MaxAddr - 1}, 0, api.ErrNone)
}

func TestH1MostUsed(t *testing.T) {
	for _, used := range [][]int{row(api.MaxUsed, 1, 1), row(api.MaxUsed, api.MaxUsed, -1)} {
		wantNext(t, whole, used, api.MaxUsed+1, api.OK)
		wantShare(t, whole, used, api.MaxUsed, 1<<32-2, api.OK)
	}
	wantNext(t, whole, row(api.MaxUsed, 2, 1), 1, api.OK)
	wantNext(t, whole, slices.Repeat([]int{1}, api.MaxUsed), 2, api.OK)
	wantShare(t, whole, slices.Repeat([]int{1}, api.MaxUsed), 1, 1<<32-2, api.OK)
	wantNext(t, api.Prefix{Addr: 0, Len: 25}, row(api.MaxUsed, 0, 1), 0, api.ErrNone)
	wantShare(t, api.Prefix{Addr: 0, Len: 25}, row(api.MaxUsed, 0, 1), 126, 126, api.OK)
}

func TestH1Full(t *testing.T) {
	for _, p := range []api.Prefix{whole, {Addr: 16, Len: 32}} {
		wantErr(t, p, row(api.MaxUsed+1, 0, 1), api.ErrFull)
		wantErr(t, p, slices.Repeat([]int{7}, api.MaxUsed+1), api.ErrFull)
		wantErr(t, p, row(api.MaxUsed+1, -1, -1), api.ErrFull)
		wantErr(t, p, row(100000, 0, 1), api.ErrFull)
	}
}

// TestH1WrongAddress has a wrong address in each place, and where all of the others are used up.
func TestH1WrongAddress(t *testing.T) {
	pair := api.Prefix{Addr: 16, Len: 31}
	for _, a := range wrongAddresses {
		for _, p := range []api.Prefix{whole, pair} {
			wantErr(t, p, []int{a}, api.ErrRange)
			wantErr(t, p, []int{a, 16, 17}, api.ErrRange)
			wantErr(t, p, []int{16, a, 17}, api.ErrRange)
			wantErr(t, p, []int{16, 17, a}, api.ErrRange)
			wantErr(t, p, append(row(api.MaxUsed-1, 0, 1), a), api.ErrRange)
		}
	}
}

// counted goes through a prefix address by address. Next is -1 where there is none.
func counted(p api.Prefix, used []int) (next, taken, all int) {
	next = -1
	for a := p.Addr; a < p.Addr+size(p); a++ {
		edge := a == p.Addr || a == p.Addr+size(p)-1
		switch {
		case edge && size(p) > 2:
			continue
		case slices.Contains(used, a):
			taken++
		case next < 0:
			next = a
		}
		all++
	}
	return next, taken, all
}

func TestH1AsCounted(t *testing.T) {
	const world = 64
	r := rand.New(rand.NewSource(7))
	for range 5000 {
		base := []int{0, 0x0a000040, 1<<31 - world, api.MaxAddr + 1 - world}[r.Intn(4)]
		bits := r.Intn(7)
		p := api.Prefix{Addr: (base + r.Intn(world)) >> bits << bits, Len: 32 - bits}
		var used []int
		near := min(world, 2*size(p))
		for range r.Intn(1 + min(api.MaxUsed, 6*size(p))) {
			used = append(used, min(api.MaxAddr, max(0, p.Addr-near/4+r.Intn(near+near/2))))
		}
		next, taken, all := counted(p, used)
		told := api.OK
		if next < 0 {
			next, told = 0, api.ErrNone
		}
		wantNext(t, p, used, next, told)
		wantShare(t, p, used, taken, all, api.OK)
		if t.Failed() {
			t.FailNow()
		}
	}
}

// TestH1Memory holds both calls to leaving the list alone, what lies behind its length too, and to answering
// by their arguments alone.
func TestH1Memory(t *testing.T) {
	all := []int{19, 17, 19, 0, 18, -5}
	given, kept := all[:4], slices.Clone(all)
	p := api.Prefix{Addr: 16, Len: 29}
	for range 3 {
		wantNext(t, p, given, 18, api.OK)
		wantShare(t, p, given, 2, 6, api.OK)
		wantNext(t, p, nil, 17, api.OK)
		wantShare(t, p, nil, 0, 6, api.OK)
	}
	if !slices.Equal(all, kept) {
		t.Errorf("the list that was handed in is written into: %v", all)
	}
}
