package cover_test

import (
	"math"
	"math/rand"
	"slices"
	"testing"

	"burgage/addr"
	"burgage/api"
	"burgage/cover"
	"burgage/plain"
	"burgage/span"
)

type (
	set  = []api.Span
	list = []api.Prefix
)

// worldBits is how many bits the addresses of the comparisons have; world is how many there are.
const (
	worldBits = 6
	world     = 1 << worldBits
)

var wrongSpans = []struct {
	s    api.Span
	want api.Errno
}{
	{api.Span{Low: -1, High: 5}, api.ErrRange},
	{api.Span{Low: 5, High: -1}, api.ErrRange},
	{api.Span{Low: 5, High: api.MaxAddr + 1}, api.ErrRange},
	{api.Span{Low: api.MaxAddr + 1, High: 5}, api.ErrRange},
	{api.Span{Low: math.MinInt, High: math.MaxInt}, api.ErrRange},
	{api.Span{Low: math.MaxInt, High: math.MinInt}, api.ErrRange},
	{api.Span{Low: 6, High: 5}, api.ErrShape},
	{api.Span{Low: api.MaxAddr, High: 0}, api.ErrShape},
}

var wrongPrefixes = []struct {
	p    api.Prefix
	want api.Errno
}{
	{api.Prefix{Addr: 0, Len: -1}, api.ErrRange},
	{api.Prefix{Addr: 0, Len: 33}, api.ErrRange},
	{api.Prefix{Addr: -1, Len: 32}, api.ErrRange},
	{api.Prefix{Addr: api.MaxAddr + 1, Len: 0}, api.ErrRange},
	{api.Prefix{Addr: math.MaxInt, Len: math.MinInt}, api.ErrRange},
	{api.Prefix{Addr: math.MinInt, Len: math.MaxInt}, api.ErrRange},
	{api.Prefix{Addr: 1, Len: 33}, api.ErrRange},
	{api.Prefix{Addr: 1, Len: 31}, api.ErrShape},
	{api.Prefix{Addr: 1, Len: 0}, api.ErrShape},
	{api.Prefix{Addr: api.MaxAddr, Len: 31}, api.ErrShape},
}

// singles gives n prefixes of one address each, step apart, from first on.
func singles(n, first, step int) list {
	var l list
	for i := range n {
		l = append(l, api.Prefix{Addr: first + i*step, Len: 32})
	}
	return l
}

// spansOf gives n spans of one address each, two apart, from first on.
func spansOf(n, first int) set {
	var l set
	for i := range n {
		l = append(l, api.Span{Low: first + 2*i, High: first + 2*i})
	}
	return l
}

func wantPrefixes(t *testing.T, name string, got list, err error, want list) {
	t.Helper()
	if err != nil || !slices.Equal(got, want) {
		t.Errorf("%s: answers %v %v, want %v", name, got, err, want)
	}
}

func wantSet(t *testing.T, name string, got set, err error, want set) {
	t.Helper()
	if err != nil || !slices.Equal(got, want) {
		t.Errorf("%s: answers %v %v, want %v", name, got, err, want)
	}
}

// wantErr holds an answer to an error and to nothing beside it: n is how many things came.
func wantErr(t *testing.T, name string, n int, err error, want api.Errno) {
	t.Helper()
	if got := plain.Told(err); got != want {
		t.Errorf("%s: says %v, want %v", name, got, want)
	}
	if n != 0 {
		t.Errorf("%s: answers %d things beside its error", name, n)
	}
}

func TestC1Of(t *testing.T) {
	for _, c := range []struct {
		s    api.Span
		want list
	}{
		{api.Span{Low: 1, High: 6}, list{{Addr: 1, Len: 32}, {Addr: 2, Len: 31}, {Addr: 4, Len: 31}, {Addr: 6, Len: 32}}},
		{api.Span{Low: 0, High: 0}, list{{Addr: 0, Len: 32}}},
		{api.Span{Low: 0, High: 6}, list{{Addr: 0, Len: 30}, {Addr: 4, Len: 31}, {Addr: 6, Len: 32}}},
		{api.Span{Low: 0, High: 7}, list{{Addr: 0, Len: 29}}},
		{api.Span{Low: 8, High: 15}, list{{Addr: 8, Len: 29}}},
		{api.Span{Low: 4, High: 11}, list{{Addr: 4, Len: 30}, {Addr: 8, Len: 30}}},
		{api.Span{Low: 0, High: api.MaxAddr}, list{{Addr: 0, Len: 0}}},
		{api.Span{Low: 1 << 31, High: api.MaxAddr}, list{{Addr: 1 << 31, Len: 1}}},
		{api.Span{Low: 1<<31 - 1, High: 1 << 31}, list{{Addr: 1<<31 - 1, Len: 32}, {Addr: 1 << 31, Len: 32}}},
		{api.Span{Low: api.MaxAddr, High: api.MaxAddr}, list{{Addr: api.MaxAddr, Len: 32}}},
		{api.Span{Low: api.MaxAddr - 2, High: api.MaxAddr}, list{{Addr: api.MaxAddr - 2, Len: 32}, {Addr: api.MaxAddr - 1, Len: 31}}},
	} {
		got, err := cover.Of(c.s)
		wantPrefixes(t, "Of", got, err, c.want)
	}
}

func TestC1OfTheWorldButItsEnds(t *testing.T) {
	var want list
	for n := 32; n > 1; n-- {
		want = append(want, api.Prefix{Addr: 1 << (32 - n), Len: n})
	}
	for n := 2; n <= 32; n++ {
		want = append(want, api.Prefix{Addr: 1<<32 - 1<<(33-n), Len: n})
	}
	got, err := cover.Of(api.Span{Low: 1, High: api.MaxAddr - 1})
	wantPrefixes(t, "Of", got, err, want)
}

func TestC1OfRefuses(t *testing.T) {
	for _, w := range wrongSpans {
		got, err := cover.Of(w.s)
		wantErr(t, "Of", len(got), err, w.want)
	}
}

func TestC1Set(t *testing.T) {
	got, err := cover.Set(nil)
	wantPrefixes(t, "Set of none", got, err, nil)
	got, err = cover.Set(set{{Low: 1, High: 2}, {Low: 4, High: 7}, {Low: api.MaxAddr, High: api.MaxAddr}})
	wantPrefixes(t, "Set", got, err, list{{Addr: 1, Len: 32}, {Addr: 2, Len: 32}, {Addr: 4, Len: 30}, {Addr: api.MaxAddr, Len: 32}})
	got, err = cover.Set(spansOf(64, 1))
	wantPrefixes(t, "Set of 64", got, err, singles(64, 1, 2))
}

func TestC1SetRefuses(t *testing.T) {
	for _, c := range []struct {
		name string
		l    set
		want api.Errno
	}{
		{"too many spans", spansOf(65, 0), api.ErrFull},
		{"too many spans ahead of no address", spansOf(65, -1), api.ErrFull},
		{"spans that touch", set{{Low: 1, High: 2}, {Low: 3, High: 4}}, api.ErrShape},
		{"falling", set{{Low: 7, High: 9}, {Low: 1, High: 2}}, api.ErrShape},
		{"shape stands ahead of range", set{{Low: 4, High: 3}, {Low: -1, High: 8}}, api.ErrShape},
		{"range stands ahead of shape", set{{Low: -1, High: 8}, {Low: 4, High: 3}}, api.ErrRange},
	} {
		got, err := cover.Set(c.l)
		wantErr(t, c.name, len(got), err, c.want)
	}
	for _, w := range wrongSpans {
		got, err := cover.Set(set{{Low: 0, High: 0}, w.s})
		wantErr(t, "Set of a wrong span", len(got), err, w.want)
	}
}

// fullSet is a set that falls into n prefixes, n from 174 to 235: three wide spans, of 29 rising and
// 29 falling prefixes each, and single addresses behind them.
func fullSet(n int) set {
	var l set
	for i := range 3 {
		low := i << 30
		l = append(l, api.Span{Low: low + 1, High: low + 1<<30 - 2})
	}
	for i := range n - 3*58 {
		l = append(l, api.Span{Low: 3<<30 + 2*i, High: 3<<30 + 2*i})
	}
	return l
}

func TestC1SetMayComeToTooMany(t *testing.T) {
	got, err := cover.Set(fullSet(200))
	if err != nil || len(got) != 200 {
		t.Errorf("Set of 200: answers %d, %v", len(got), err)
	}
	got, err = cover.Set(fullSet(201))
	wantErr(t, "Set of 201", len(got), err, api.ErrFull)
	got, err = cover.Set(append(fullSet(201), api.Span{Low: 5, High: 5}))
	wantErr(t, "Set of 201 that is no set", len(got), err, api.ErrShape)
}

func TestC1Spans(t *testing.T) {
	for _, c := range []struct {
		name string
		l    list
		want set
	}{
		{"none", nil, nil},
		{"two that touch, falling", list{{Addr: 4, Len: 30}, {Addr: 0, Len: 30}}, set{{Low: 0, High: 7}}},
		{"two apart", list{{Addr: 8, Len: 30}, {Addr: 0, Len: 30}}, set{{Low: 0, High: 3}, {Low: 8, High: 11}}},
		{"one in the other", list{{Addr: 0, Len: 28}, {Addr: 4, Len: 30}, {Addr: 0, Len: 32}}, set{{Low: 0, High: 15}}},
		{"one in the other, the inner one first", list{{Addr: 4, Len: 31}, {Addr: 0, Len: 29}}, set{{Low: 0, High: 7}}},
		{"inner ones ahead of one that touches", list{{Addr: 0, Len: 29}, {Addr: 0, Len: 32}, {Addr: 8, Len: 32}}, set{{Low: 0, High: 8}}},
		{"twice the same", list{{Addr: 6, Len: 32}, {Addr: 6, Len: 32}}, set{{Low: 6, High: 6}}},
		{"touching, but of other prefixes", list{{Addr: 3, Len: 32}, {Addr: 4, Len: 32}}, set{{Low: 3, High: 4}}},
		{"all, and the last", list{{Addr: api.MaxAddr, Len: 32}, {Addr: 0, Len: 0}}, set{{Low: 0, High: api.MaxAddr}}},
		{"both ends", list{{Addr: api.MaxAddr, Len: 32}, {Addr: 0, Len: 32}}, set{{Low: 0, High: 0}, {Low: api.MaxAddr, High: api.MaxAddr}}},
		{"200 that touch", singles(200, 0, 1), set{{Low: 0, High: 199}}},
		{"64 apart", singles(64, 0, 2), spansOf(64, 0)},
		{"many apart, then closed up", append(singles(100, 0, 2), singles(100, 1, 2)...), set{{Low: 0, High: 199}}},
		{"many apart, and one over all", append(singles(199, 0, 2), api.Prefix{Addr: 0, Len: 20}), set{{Low: 0, High: 4095}}},
	} {
		got, err := cover.Spans(c.l)
		wantSet(t, c.name, got, err, c.want)
		if err := span.Check(got); err != nil {
			t.Errorf("%s: no set, says %v", c.name, err)
		}
	}
}

// wrongLists are lists of which Spans, and so Fewest, says something.
func wrongLists() map[string]struct {
	l    list
	want api.Errno
} {
	shape, low := api.Prefix{Addr: 1, Len: 31}, api.Prefix{Addr: -1, Len: 32}
	return map[string]struct {
		l    list
		want api.Errno
	}{
		"201":                           {singles(201, 0, 1), api.ErrFull},
		"201, all the same":             {singles(201, 0, 0), api.ErrFull},
		"201 ahead of no address":       {singles(201, -1, 1), api.ErrFull},
		"65 come":                       {singles(65, 0, 2), api.ErrFull},
		"200 come":                      {singles(200, 0, 2), api.ErrFull},
		"shape stands ahead of range":   {list{shape, low}, api.ErrShape},
		"range stands ahead of shape":   {list{low, shape}, api.ErrRange},
		"a wrong one ahead of too many": {append(singles(65, 0, 2), shape), api.ErrShape},
	}
}

func TestC1SpansAndFewestRefuse(t *testing.T) {
	for name, w := range wrongLists() {
		s, err := cover.Spans(w.l)
		wantErr(t, "Spans, "+name, len(s), err, w.want)
		p, err := cover.Fewest(w.l)
		wantErr(t, "Fewest, "+name, len(p), err, w.want)
	}
	for _, w := range wrongPrefixes {
		l := list{{Addr: 0, Len: 32}, w.p}
		s, err := cover.Spans(l)
		wantErr(t, "Spans of a wrong prefix", len(s), err, w.want)
		p, err := cover.Fewest(l)
		wantErr(t, "Fewest of a wrong prefix", len(p), err, w.want)
	}
}

func TestC1Fewest(t *testing.T) {
	for _, c := range []struct {
		name    string
		l, want list
	}{
		{"none", nil, nil},
		{"halves", list{{Addr: 4, Len: 30}, {Addr: 0, Len: 30}, {Addr: 1, Len: 32}}, list{{Addr: 0, Len: 29}}},
		{"no halves", list{{Addr: 4, Len: 30}, {Addr: 8, Len: 30}}, list{{Addr: 4, Len: 30}, {Addr: 8, Len: 30}}},
		{"the whole world", list{{Addr: 1 << 31, Len: 1}, {Addr: 0, Len: 1}}, list{{Addr: 0, Len: 0}}},
		{"many", singles(128, 256, 1), list{{Addr: 256, Len: 25}}},
		{"64 apart", singles(64, 0, 2), singles(64, 0, 2)},
	} {
		got, err := cover.Fewest(c.l)
		wantPrefixes(t, c.name, got, err, c.want)
	}
}

// fewest counts how few prefixes can have just those addresses of the world that are among the size from first on.
func fewest(in [world]bool, first, size int) (n int, whole bool) {
	if size == 1 {
		if in[first] {
			return 1, true
		}
		return 0, false
	}
	low, lowWhole := fewest(in, first, size/2)
	high, highWhole := fewest(in, first+size/2, size/2)
	if lowWhole && highWhole {
		return 1, true
	}
	return low + high, false
}

// hits counts of each address of the world how many of the prefixes have it.
func hits(t *testing.T, l list) [world]int {
	var n [world]int
	for _, p := range l {
		first, last, err := addr.Ends(p)
		if err != nil || last >= world {
			t.Fatalf("%v is no prefix of the world, %v", p, err)
		}
		for a := first; a <= last; a++ {
			n[a]++
		}
	}
	return n
}

// wantCover holds a list to what is said of it: just these addresses, none twice, rising, and as few as can be.
func wantCover(t *testing.T, name string, got list, err error, in [world]bool) {
	t.Helper()
	if err != nil {
		t.Fatalf("%s says %v", name, err)
	}
	for a, n := range hits(t, got) {
		if (n == 1) != in[a] || n > 1 {
			t.Fatalf("%s: %v has %d %d times, want %v", name, got, a, n, in[a])
		}
	}
	if !slices.IsSortedFunc(got, func(p, q api.Prefix) int { return p.Addr - q.Addr }) {
		t.Fatalf("%s: %v does not rise", name, got)
	}
	if n, _ := fewest(in, 0, world); len(got) != n {
		t.Fatalf("%s: %v are %d, want %d", name, got, len(got), n)
	}
}

func TestC1OfIsAsFewAsCanBe(t *testing.T) {
	for low := range world {
		for high := low; high < world; high++ {
			var in [world]bool
			for a := low; a <= high; a++ {
				in[a] = true
			}
			got, err := cover.Of(api.Span{Low: low, High: high})
			wantCover(t, "Of", got, err, in)
		}
	}
}

func somePrefixes(r *rand.Rand) list {
	var l list
	for range r.Intn(20) {
		free := r.Intn(r.Intn(worldBits+1) + 1)
		l = append(l, api.Prefix{Addr: r.Intn(world) >> free << free, Len: 32 - free})
	}
	return l
}

func TestC1FewestIsAsFewAsCanBe(t *testing.T) {
	r := rand.New(rand.NewSource(1))
	for range 5000 {
		l := somePrefixes(r)
		var in [world]bool
		for a, n := range hits(t, l) {
			in[a] = n > 0
		}
		spans, err := cover.Spans(l)
		if err != nil {
			t.Fatalf("Spans(%v) says %v", l, err)
		}
		for a, want := range in {
			if got, err := span.Has(spans, a); got != want || err != nil {
				t.Fatalf("Spans(%v) has %d: %v %v, want %v", l, a, got, err, want)
			}
		}
		got, err := cover.Set(spans)
		wantCover(t, "Set", got, err, in)
		again, err := cover.Spans(got)
		wantSet(t, "Spans of Set", again, err, spans)
		few, err := cover.Fewest(l)
		wantPrefixes(t, "Fewest", few, err, got)
	}
}

// TestC1LeavesItsArguments: P2 of this layer: nothing that is handed in is written, kept, or handed out.
func TestC1LeavesItsArguments(t *testing.T) {
	prefixes := list{{Addr: 8, Len: 30}, {Addr: 0, Len: 32}, {Addr: 4, Len: 32}, {Addr: 2, Len: 32}}
	spans := set{{Low: 0, High: 0}, {Low: 4, High: 4}, {Low: 9, High: 9}}
	keptPrefixes, keptSpans := slices.Clone(prefixes), slices.Clone(spans)
	few, err := cover.Fewest(prefixes[:3])
	wantPrefixes(t, "Fewest", few, err, list{{Addr: 0, Len: 32}, {Addr: 4, Len: 32}, {Addr: 8, Len: 30}})
	of, err := cover.Set(spans[:2])
	wantPrefixes(t, "Set", of, err, singles(2, 0, 4))
	joined, err := cover.Spans(prefixes[:3])
	wantSet(t, "Spans", joined, err, set{{Low: 0, High: 0}, {Low: 4, High: 4}, {Low: 8, High: 11}})
	clear(few)
	clear(of)
	clear(joined)
	if !slices.Equal(prefixes, keptPrefixes) || !slices.Equal(spans, keptSpans) {
		t.Errorf("what was handed in is now %v, %v", prefixes, spans)
	}
}
