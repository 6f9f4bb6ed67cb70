package tree_test

import (
	"math"
	"math/rand"
	"slices"
	"testing"

	"burgage/addr"
	"burgage/api"
	"burgage/plain"
	"burgage/tree"
)

type list = []api.Prefix

// whole is the prefix of all addresses.
var whole = api.Prefix{Addr: 0, Len: 0}

var wrongPrefixes = []struct {
	p    api.Prefix
	want api.Errno
}{
	{api.Prefix{Addr: 0, Len: -1}, api.ErrRange},
	{api.Prefix{Addr: 0, Len: 33}, api.ErrRange},
	{api.Prefix{Addr: -1, Len: 32}, api.ErrRange},
	{api.Prefix{Addr: api.MaxAddr + 1, Len: 0}, api.ErrRange},
	{api.Prefix{Addr: math.MaxInt, Len: math.MinInt}, api.ErrRange},
	{api.Prefix{Addr: math.MinInt, Len: math.MaxInt}, api.ErrRange},
	{api.Prefix{Addr: 1, Len: 33}, api.ErrRange},
	{api.Prefix{Addr: 1, Len: 31}, api.ErrShape},
	{api.Prefix{Addr: 1, Len: 0}, api.ErrShape},
	{api.Prefix{Addr: api.MaxAddr, Len: 31}, api.ErrShape},
}

// sample has prefixes in one another, three deep, beside others, and both ends of the addresses.
var sample = list{
	{Addr: 0, Len: 8}, {Addr: 0, Len: 16}, {Addr: 0, Len: 32}, {Addr: 256, Len: 24}, {Addr: 65536, Len: 16},
	{Addr: 1 << 24, Len: 8}, {Addr: 1<<24 + 4, Len: 30}, {Addr: 1 << 31, Len: 1}, {Addr: api.MaxAddr, Len: 32},
}

// singles gives a tree of n prefixes of one address each, two apart, from first on.
func singles(n, first int) list {
	var l list
	for i := range n {
		l = append(l, api.Prefix{Addr: first + 2*i, Len: 32})
	}
	return l
}

func wantList(t *testing.T, name string, got list, err error, want list) {
	t.Helper()
	if err != nil || !slices.Equal(got, want) {
		t.Errorf("%s: answers %v %v, want %v", name, got, err, want)
	}
	if len(got) == 0 && got != nil {
		t.Errorf("%s: answers an empty list that is not nil", name)
	}
}

func wantErr(t *testing.T, name string, got list, err error, want api.Errno) {
	t.Helper()
	if plain.Told(err) != want || got != nil {
		t.Errorf("%s: answers %v %v, want %v", name, got, err, want)
	}
}

// calls are those that answer a list, of a tree and a prefix.
var calls = []struct {
	name string
	call func(l list, p api.Prefix) (list, error)
}{
	{"Put", tree.Put},
	{"Drop", tree.Drop},
	{"Above", tree.Above},
	{"Below", tree.Below},
}

// wantTreeErr holds Check, and all that say it first, to an error. What else they are given is wrong, too,
// so that no other error may come ahead of it.
func wantTreeErr(t *testing.T, l list, want api.Errno) {
	t.Helper()
	wantErr(t, "Check", nil, tree.Check(l), want)
	for _, c := range calls {
		for _, p := range (list{{Addr: 1, Len: 0}, {Addr: 0, Len: 33}, {Addr: 5, Len: 32}}) {
			got, err := c.call(l, p)
			wantErr(t, c.name, got, err, want)
		}
	}
	got, err := tree.Roots(l)
	wantErr(t, "Roots", got, err, want)
	for _, a := range []int{-1, 0, api.MaxAddr + 1} {
		p, err := tree.Find(l, a)
		wantErr(t, "Find", nil, err, want)
		if p != whole {
			t.Errorf("Find: answers %v beside an error", p)
		}
	}
}

func TestT1Trees(t *testing.T) {
	for _, l := range []list{
		nil, {}, {whole}, sample, singles(api.MaxTree, 0), singles(api.MaxTree, api.MaxAddr-2*api.MaxTree),
		{{Addr: 0, Len: 31}, {Addr: 0, Len: 32}, {Addr: 1, Len: 32}, {Addr: 2, Len: 31}},
		{whole, {Addr: api.MaxAddr, Len: 32}},
	} {
		if err := tree.Check(l); err != nil {
			t.Errorf("Check of %v: %v", l, err)
		}
	}
}

func TestT1Full(t *testing.T) {
	long := singles(api.MaxTree+1, 0)
	wantTreeErr(t, long, api.ErrFull)
	long[0] = api.Prefix{Addr: -1, Len: 40}
	wantTreeErr(t, long, api.ErrFull)
	long[0] = long[1]
	wantTreeErr(t, long, api.ErrFull)
}

func TestT1WrongPrefixOfATree(t *testing.T) {
	for _, w := range wrongPrefixes {
		wantTreeErr(t, list{w.p}, w.want)
		wantTreeErr(t, list{whole, w.p}, w.want)
		wantTreeErr(t, append(singles(api.MaxTree-1, 0), w.p), w.want)
	}
}

func TestT1NotRising(t *testing.T) {
	for _, l := range []list{
		{{Addr: 1, Len: 32}, {Addr: 0, Len: 32}},
		{{Addr: 0, Len: 32}, {Addr: 0, Len: 31}},
		{{Addr: 2, Len: 31}, {Addr: 0, Len: 32}},
		{whole, whole},
		{{Addr: api.MaxAddr, Len: 32}, whole},
		append(singles(api.MaxTree-1, 2), whole),
	} {
		wantTreeErr(t, l, api.ErrShape)
	}
}

func TestT1PrefixByPrefix(t *testing.T) {
	shape, outside := api.Prefix{Addr: 1, Len: 31}, api.Prefix{Addr: 0, Len: 33}
	wantTreeErr(t, list{shape, outside}, api.ErrShape)
	wantTreeErr(t, list{outside, shape}, api.ErrRange)
	wantTreeErr(t, list{whole, whole, outside}, api.ErrShape)
	wantTreeErr(t, list{{Addr: 5, Len: 32}, {Addr: 2, Len: 33}}, api.ErrRange)
}

func TestT1WrongPrefix(t *testing.T) {
	for _, w := range wrongPrefixes {
		for _, c := range calls {
			for _, l := range []list{nil, sample, singles(api.MaxTree, 0)} {
				got, err := c.call(l, w.p)
				wantErr(t, c.name, got, err, w.want)
			}
		}
	}
}

func TestT1Put(t *testing.T) {
	got, err := tree.Put(nil, whole)
	wantList(t, "Put into none", got, err, list{whole})
	for i, p := range sample {
		rest := slices.Delete(slices.Clone(sample), i, i+1)
		got, err := tree.Put(rest, p)
		wantList(t, "Put", got, err, sample)
		got, err = tree.Put(sample, p)
		wantErr(t, "Put of what is there", got, err, api.ErrClash)
	}
	between := list{{Addr: 8, Len: 29}, {Addr: 8, Len: 31}}
	got, err = tree.Put(between, api.Prefix{Addr: 8, Len: 30})
	wantList(t, "Put between", got, err, list{{Addr: 8, Len: 29}, {Addr: 8, Len: 30}, {Addr: 8, Len: 31}})
}

func TestT1PutIntoFull(t *testing.T) {
	most := singles(api.MaxTree, 0)
	got, err := tree.Put(most[:api.MaxTree-1], most[api.MaxTree-1])
	wantList(t, "Put of the last one that may be", got, err, most)
	got, err = tree.Put(most, whole)
	wantErr(t, "Put of one too many", got, err, api.ErrFull)
	got, err = tree.Put(most, most[7])
	wantErr(t, "Put of what is there into a full one", got, err, api.ErrClash)
}

func TestT1Drop(t *testing.T) {
	got, err := tree.Drop(list{whole}, whole)
	wantList(t, "Drop of the last one", got, err, nil)
	for i, p := range sample {
		rest := slices.Delete(slices.Clone(sample), i, i+1)
		got, err := tree.Drop(sample, p)
		wantList(t, "Drop", got, err, rest)
		got, err = tree.Drop(rest, p)
		wantErr(t, "Drop of what is not there", got, err, api.ErrNone)
	}
	got, err = tree.Drop(nil, whole)
	wantErr(t, "Drop from none", got, err, api.ErrNone)
	most := singles(api.MaxTree, 0)
	got, err = tree.Drop(most, most[0])
	wantList(t, "Drop from a full one", got, err, most[1:])
}

func TestT2Find(t *testing.T) {
	for _, c := range []struct {
		a    int
		want api.Prefix
	}{
		{0, sample[2]}, {1, sample[1]}, {255, sample[1]}, {256, sample[3]}, {511, sample[3]}, {512, sample[1]},
		{65535, sample[1]}, {65536, sample[4]}, {1<<17 - 1, sample[4]}, {1 << 17, sample[0]},
		{1<<24 - 1, sample[0]}, {1 << 24, sample[5]}, {1<<24 + 4, sample[6]}, {1<<24 + 7, sample[6]},
		{1<<24 + 8, sample[5]}, {1 << 31, sample[7]}, {api.MaxAddr - 1, sample[7]}, {api.MaxAddr, sample[8]},
	} {
		got, err := tree.Find(sample, c.a)
		wantList(t, "Find", list{got}, err, list{c.want})
	}
}

func TestT2FindNone(t *testing.T) {
	for _, c := range []struct {
		l    list
		a    int
		want api.Errno
	}{
		{sample, 1 << 25, api.ErrNone}, {sample, 1<<31 - 1, api.ErrNone}, {nil, 0, api.ErrNone},
		{sample, -1, api.ErrRange}, {sample, api.MaxAddr + 1, api.ErrRange}, {nil, -1, api.ErrRange},
		{list{whole}, math.MinInt, api.ErrRange}, {list{whole}, math.MaxInt, api.ErrRange},
	} {
		got, err := tree.Find(c.l, c.a)
		if plain.Told(err) != c.want || got != whole {
			t.Errorf("Find of %d in %v: answers %v %v, want %v", c.a, c.l, got, err, c.want)
		}
	}
}

func TestT2Above(t *testing.T) {
	for _, c := range []struct {
		p    api.Prefix
		want list
	}{
		{sample[2], list{sample[0], sample[1]}},
		{sample[1], list{sample[0]}},
		{sample[0], nil},
		{whole, nil},
		{api.Prefix{Addr: 257, Len: 32}, list{sample[0], sample[1], sample[3]}},
		{api.Prefix{Addr: 0, Len: 31}, list{sample[0], sample[1]}},
		{api.Prefix{Addr: 1 << 25, Len: 32}, nil},
		{api.Prefix{Addr: api.MaxAddr, Len: 32}, list{sample[7]}},
	} {
		got, err := tree.Above(sample, c.p)
		wantList(t, "Above", got, err, c.want)
	}
}

func TestT2Below(t *testing.T) {
	for _, c := range []struct {
		p    api.Prefix
		want list
	}{
		{whole, list{sample[0], sample[5], sample[7]}},
		{sample[0], list{sample[1], sample[4]}},
		{sample[1], list{sample[2], sample[3]}},
		{sample[2], nil},
		{sample[7], list{sample[8]}},
		{api.Prefix{Addr: 0, Len: 7}, list{sample[0], sample[5]}},
		{api.Prefix{Addr: 0, Len: 31}, list{sample[2]}},
		{api.Prefix{Addr: 1 << 25, Len: 8}, nil},
	} {
		got, err := tree.Below(sample, c.p)
		wantList(t, "Below", got, err, c.want)
	}
}

func TestT2Roots(t *testing.T) {
	got, err := tree.Roots(sample)
	wantList(t, "Roots", got, err, list{sample[0], sample[5], sample[7]})
	got, err = tree.Roots(nil)
	wantList(t, "Roots of none", got, err, nil)
	most := singles(api.MaxTree, 0)
	got, err = tree.Roots(most)
	wantList(t, "Roots beside one another", got, err, most)
	got, err = tree.Roots(append(list{whole}, most[1:]...))
	wantList(t, "Roots under all", got, err, list{whole})
}

// smallTree gives prefixes of the last addresses, so near to one another that many are in others.
func smallTree(r *rand.Rand, n int) list {
	var l list
	for range n {
		p := smallPrefix(r)
		if !slices.Contains(l, p) {
			l = append(l, p)
		}
	}
	slices.SortFunc(l, func(p, q api.Prefix) int {
		if p.Addr != q.Addr {
			return p.Addr - q.Addr
		}
		return p.Len - q.Len
	})
	return l
}

func smallPrefix(r *rand.Rand) api.Prefix {
	bits := r.Intn(5)
	return api.Prefix{Addr: (api.MaxAddr - r.Intn(16)) >> bits << bits, Len: 32 - bits}
}

// has says, address by address, whether all addresses of p are addresses of q.
func has(t *testing.T, q, p api.Prefix) bool {
	t.Helper()
	first, last, err := addr.Ends(p)
	if err != nil {
		t.Fatal(err)
	}
	low, high, err := addr.Ends(q)
	if err != nil {
		t.Fatal(err)
	}
	for a := first; a <= last; a++ {
		if a < low || a > high {
			return false
		}
	}
	return true
}

func TestT2AsCounted(t *testing.T) {
	r := rand.New(rand.NewSource(4))
	for range 2000 {
		l, p := smallTree(r, r.Intn(20)), smallPrefix(r)
		var above, below, top list
		for _, q := range l {
			if q != p && has(t, q, p) {
				above = append(above, q)
			}
			root, direct := true, q != p && has(t, p, q)
			for _, o := range l {
				if o != q && has(t, o, q) {
					root = false
					direct = direct && (o == p || !has(t, p, o))
				}
			}
			if direct {
				below = append(below, q)
			}
			if root {
				top = append(top, q)
			}
		}
		slices.SortFunc(above, func(p, q api.Prefix) int { return p.Len - q.Len })
		got, err := tree.Above(l, p)
		wantList(t, "Above", got, err, above)
		got, err = tree.Below(l, p)
		wantList(t, "Below", got, err, below)
		got, err = tree.Roots(l)
		wantList(t, "Roots", got, err, top)
	}
}

func TestT2FindAsCounted(t *testing.T) {
	r := rand.New(rand.NewSource(5))
	for range 2000 {
		l, a := smallTree(r, r.Intn(12)), api.MaxAddr-r.Intn(16)
		best, want := whole, api.ErrNone
		for _, q := range l {
			if has(t, q, api.Prefix{Addr: a, Len: 32}) && q.Len > best.Len {
				best, want = q, api.OK
			}
		}
		got, err := tree.Find(l, a)
		if plain.Told(err) != want || got != best {
			t.Errorf("Find of %d in %v: answers %v %v, want %v %v", a, l, got, err, best, want)
		}
	}
}

// TestT1Memory holds every call to leaving its argument alone, and to memory of its own.
func TestT1Memory(t *testing.T) {
	beyond := append(slices.Clone(sample), api.Prefix{Addr: 77, Len: 77})
	given := beyond[:len(sample)]
	fit := map[string]api.Prefix{"Put": {Addr: 0, Len: 7}, "Drop": sample[0], "Above": {Addr: 1, Len: 32}, "Below": whole}
	for _, c := range calls {
		p := fit[c.name]
		first, err := c.call(given, p)
		if err != nil || len(first) == 0 {
			t.Fatal(c.name, first, err)
		}
		second, _ := c.call(given, p)
		want := slices.Clone(second)
		clear(first[:cap(first)])
		if !slices.Equal(second, want) {
			t.Errorf("%s: two answers share memory", c.name)
		}
	}
	top, err := tree.Roots(given)
	if err != nil {
		t.Fatal(err)
	}
	clear(top[:cap(top)])
	if !slices.Equal(given, sample) || beyond[len(sample)] != (api.Prefix{Addr: 77, Len: 77}) {
		t.Errorf("the list that was handed in is written into: %v", beyond)
	}
}
