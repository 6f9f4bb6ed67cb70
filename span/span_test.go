package span_test

import (
	"math"
	"math/rand"
	"slices"
	"testing"

	"burgage/api"
	"burgage/plain"
	"burgage/span"
)

type set = []api.Span

// world is how many addresses the sets of the comparisons have to do with.
const world = 40

// two is an operation on two sets, and what it says of one address.
type two struct {
	name string
	do   func(a, b []api.Span) ([]api.Span, error)
	keep func(inA, inB bool) bool
}

func twos() []two {
	return []two{
		{"Union", span.Union, func(inA, inB bool) bool { return inA || inB }},
		{"Meet", span.Meet, func(inA, inB bool) bool { return inA && inB }},
		{"Minus", span.Minus, func(inA, inB bool) bool { return inA && !inB }},
	}
}

// wrongSpans are spans that are none, wherever they stand, each with what is said of them.
var wrongSpans = []struct {
	s    api.Span
	want api.Errno
}{
	{api.Span{Low: -1, High: 5}, api.ErrRange},
	{api.Span{Low: 5, High: -1}, api.ErrRange},
	{api.Span{Low: 5, High: api.MaxAddr + 1}, api.ErrRange},
	{api.Span{Low: api.MaxAddr + 1, High: api.MaxAddr + 1}, api.ErrRange},
	{api.Span{Low: api.MaxAddr + 1, High: 5}, api.ErrRange},
	{api.Span{Low: math.MinInt, High: math.MaxInt}, api.ErrRange},
	{api.Span{Low: math.MaxInt, High: math.MinInt}, api.ErrRange},
	{api.Span{Low: 0, High: math.MaxInt}, api.ErrRange},
	{api.Span{Low: math.MinInt, High: 0}, api.ErrRange},
	{api.Span{Low: 6, High: 5}, api.ErrShape},
	{api.Span{Low: api.MaxAddr, High: 0}, api.ErrShape},
}

// comb gives n spans of one address each, step apart, from first on.
func comb(n, first, step int) set {
	var l set
	for i := range n {
		l = append(l, api.Span{Low: first + i*step, High: first + i*step})
	}
	return l
}

// wrongSets are lists that are no sets, each with what Check says of them.
func wrongSets() map[string]struct {
	l    set
	want api.Errno
} {
	return map[string]struct {
		l    set
		want api.Errno
	}{
		"one too many":                    {comb(65, 0, 2), api.ErrFull},
		"too many ahead of no address":    {comb(65, -1, 2), api.ErrFull},
		"too many ahead of shape":         {comb(65, 0, 1), api.ErrFull},
		"touching":                        {set{{Low: 1, High: 2}, {Low: 3, High: 4}}, api.ErrShape},
		"touching at the end":             {set{{Low: 0, High: api.MaxAddr - 1}, {Low: api.MaxAddr, High: api.MaxAddr}}, api.ErrShape},
		"one over the other":              {set{{Low: 1, High: 5}, {Low: 5, High: 9}}, api.ErrShape},
		"one in the other":                {set{{Low: 1, High: 9}, {Low: 3, High: 4}}, api.ErrShape},
		"twice the same":                  {set{{Low: 1, High: 2}, {Low: 1, High: 2}}, api.ErrShape},
		"falling":                         {set{{Low: 7, High: 9}, {Low: 1, High: 4}}, api.ErrShape},
		"behind all there is":             {set{{Low: 0, High: api.MaxAddr}, {Low: 0, High: 0}}, api.ErrShape},
		"shape stands ahead of range":     {set{{Low: 4, High: 3}, {Low: -1, High: 8}}, api.ErrShape},
		"place stands ahead of range":     {set{{Low: 1, High: 3}, {Low: 4, High: 8}, {Low: -1, High: 8}}, api.ErrShape},
		"range stands ahead of shape":     {set{{Low: -1, High: 3}, {Low: 9, High: 8}}, api.ErrRange},
		"range of one ahead of its shape": {set{{Low: 5, High: 9}, {Low: 3, High: -1}}, api.ErrRange},
		"the third":                       {set{{Low: 5, High: 9}, {Low: 11, High: 12}, {Low: 13, High: 13}}, api.ErrShape},
	}
}

func wantErr(t *testing.T, name string, err error, want api.Errno) {
	t.Helper()
	if got := plain.Told(err); got != want {
		t.Errorf("%s: says %v, want %v", name, got, want)
	}
}

func wantSet(t *testing.T, name string, got set, err error, want set) {
	t.Helper()
	if err != nil || !slices.Equal(got, want) {
		t.Errorf("%s: answers %v %v, want %v", name, got, err, want)
	}
}

// wantNone holds an answer to an error and to nothing beside it.
func wantNone(t *testing.T, name string, got set, err error, want api.Errno) {
	t.Helper()
	wantErr(t, name, err, want)
	if len(got) != 0 {
		t.Errorf("%s: answers %v beside its error", name, got)
	}
}

func TestS1CheckTakesSets(t *testing.T) {
	for _, l := range []set{
		nil,
		{},
		{{Low: 0, High: 0}},
		{{Low: api.MaxAddr, High: api.MaxAddr}},
		{{Low: 0, High: api.MaxAddr}},
		{{Low: 1, High: 2}, {Low: 4, High: 4}},
		{{Low: 0, High: api.MaxAddr - 2}, {Low: api.MaxAddr, High: api.MaxAddr}},
		comb(64, 0, 2),
		comb(64, api.MaxAddr-126, 2),
	} {
		if err := span.Check(l); err != nil {
			t.Errorf("Check(%v) says %v", l, err)
		}
	}
}

func TestS1CheckRefusesOthers(t *testing.T) {
	for name, w := range wrongSets() {
		wantErr(t, name, span.Check(w.l), w.want)
	}
	for _, w := range wrongSpans {
		wantErr(t, "a wrong span alone", span.Check(set{w.s}), w.want)
		wantErr(t, "a wrong span behind another", span.Check(set{{Low: 0, High: 0}, w.s}), w.want)
	}
}

func TestS1Make(t *testing.T) {
	for _, c := range []struct{ l, want set }{
		{nil, nil},
		{set{{Low: 5, High: 9}, {Low: 1, High: 4}, {Low: 20, High: 20}}, set{{Low: 1, High: 9}, {Low: 20, High: 20}}},
		{set{{Low: 1, High: 4}, {Low: 6, High: 9}}, set{{Low: 1, High: 4}, {Low: 6, High: 9}}},
		{set{{Low: 6, High: 9}, {Low: 1, High: 4}}, set{{Low: 1, High: 4}, {Low: 6, High: 9}}},
		{set{{Low: 1, High: 9}, {Low: 3, High: 4}}, set{{Low: 1, High: 9}}},
		{set{{Low: 3, High: 4}, {Low: 3, High: 4}}, set{{Low: 3, High: 4}}},
		{set{{Low: api.MaxAddr, High: api.MaxAddr}, {Low: 0, High: api.MaxAddr - 1}}, set{{Low: 0, High: api.MaxAddr}}},
		{set{{Low: 0, High: api.MaxAddr}, {Low: 0, High: 0}}, set{{Low: 0, High: api.MaxAddr}}},
		{comb(64, 0, 1), set{{Low: 0, High: 63}}},
		{comb(64, 0, 2), comb(64, 0, 2)},
	} {
		got, err := span.Make(c.l)
		wantSet(t, "Make", got, err, c.want)
	}
}

func TestS1MakeRefuses(t *testing.T) {
	for _, c := range []struct {
		name string
		l    set
		want api.Errno
	}{
		{"one too many, though one span comes", comb(65, 0, 1), api.ErrFull},
		{"too many ahead of no address", comb(65, -1, 2), api.ErrFull},
		{"shape stands ahead of range", set{{Low: 4, High: 3}, {Low: -1, High: 8}}, api.ErrShape},
		{"range stands ahead of shape", set{{Low: -1, High: 8}, {Low: 4, High: 3}}, api.ErrRange},
	} {
		got, err := span.Make(c.l)
		wantNone(t, c.name, got, err, c.want)
	}
	for _, w := range wrongSpans {
		got, err := span.Make(set{{Low: 7, High: 9}, w.s})
		wantNone(t, "Make of a wrong span", got, err, w.want)
	}
}

func TestS1Examples(t *testing.T) {
	a, b := set{{Low: 1, High: 9}}, set{{Low: 5, High: 6}, {Low: 9, High: 12}}
	got, err := span.Union(a, b)
	wantSet(t, "Union", got, err, set{{Low: 1, High: 12}})
	got, err = span.Meet(a, b)
	wantSet(t, "Meet", got, err, set{{Low: 5, High: 6}, {Low: 9, High: 9}})
	got, err = span.Minus(a, b)
	wantSet(t, "Minus", got, err, set{{Low: 1, High: 4}, {Low: 7, High: 8}})
	got, err = span.Minus(b, a)
	wantSet(t, "Minus", got, err, set{{Low: 10, High: 12}})
	got, err = span.Union(set{{Low: 1, High: 2}}, set{{Low: 3, High: 4}})
	wantSet(t, "Union of spans that touch", got, err, set{{Low: 1, High: 4}})
}

func TestS1WholeWorld(t *testing.T) {
	all := set{{Low: 0, High: api.MaxAddr}}
	odd := set{{Low: 0, High: 0}, {Low: 2, High: api.MaxAddr - 2}, {Low: api.MaxAddr, High: api.MaxAddr}}
	rest := set{{Low: 1, High: 1}, {Low: api.MaxAddr - 1, High: api.MaxAddr - 1}}
	got, err := span.Minus(all, odd)
	wantSet(t, "Minus", got, err, rest)
	got, err = span.Union(odd, rest)
	wantSet(t, "Union", got, err, all)
	got, err = span.Meet(all, odd)
	wantSet(t, "Meet", got, err, odd)
	got, err = span.Minus(odd, all)
	wantSet(t, "Minus", got, err, nil)
}

func TestS1TwoRefuseWhatIsNoSet(t *testing.T) {
	good := set{{Low: 1, High: 9}}
	full, shape := comb(65, 0, 2), set{{Low: 2, High: 1}}
	for _, op := range twos() {
		for name, w := range wrongSets() {
			got, err := op.do(w.l, good)
			wantNone(t, op.name+", first: "+name, got, err, w.want)
			got, err = op.do(good, w.l)
			wantNone(t, op.name+", second: "+name, got, err, w.want)
			got, err = op.do(nil, w.l)
			wantNone(t, op.name+" with none, second: "+name, got, err, w.want)
		}
		got, err := op.do(shape, full)
		wantNone(t, op.name+": the first is looked at first", got, err, api.ErrShape)
		got, err = op.do(full, shape)
		wantNone(t, op.name+": the first is looked at first", got, err, api.ErrFull)
	}
}

func TestS1TwoMayComeToTooMany(t *testing.T) {
	all := set{{Low: 0, High: api.MaxAddr}}
	wide := set{{Low: 0, High: 1000}, {Low: 1002, High: 2000}}
	// Two wide spans met with combs: 64 come, or 65 where the gap parts one of the spans of the other.
	parted := append(comb(63, 0, 2), api.Span{Low: 1000, High: 1002})
	for _, c := range []struct {
		name string
		do   func(a, b []api.Span) ([]api.Span, error)
		a, b set
		n    int
	}{
		{"Union of 32 and 32", span.Union, comb(32, 0, 4), comb(32, 2, 4), 64},
		{"Union of 33 and 32", span.Union, comb(33, 0, 4), comb(32, 2, 4), 65},
		{"Union of 64 and 64", span.Union, comb(64, 0, 4), comb(64, 2, 4), 128},
		{"Union of 64 and 64 that close up", span.Union, comb(64, 0, 2), comb(64, 1, 2), 1},
		{"Meet of 2 and 64", span.Meet, wide, comb(64, 0, 2), 64},
		{"Meet of 2 and 64, one parted", span.Meet, wide, parted, 65},
		{"Minus of 1 and 63", span.Minus, all, comb(63, 1, 2), 64},
		{"Minus of 1 and 64", span.Minus, all, comb(64, 1, 2), 65},
		{"Minus of 1 and 64 from its edge", span.Minus, all, comb(64, 0, 2), 64},
	} {
		got, err := c.do(c.a, c.b)
		if c.n > api.MaxSpans {
			wantNone(t, c.name, got, err, api.ErrFull)
		} else if err != nil || len(got) != c.n {
			t.Errorf("%s: answers %d spans, %v, want %d", c.name, len(got), err, c.n)
		}
	}
}

func TestS1Count(t *testing.T) {
	for _, c := range []struct {
		l    set
		want int
	}{
		{nil, 0},
		{set{{Low: 7, High: 7}}, 1},
		{set{{Low: 5, High: 6}, {Low: 9, High: 12}}, 6},
		{set{{Low: 0, High: api.MaxAddr}}, 1 << 32},
		{comb(64, 0, 2), 64},
	} {
		if got, err := span.Count(c.l); got != c.want || err != nil {
			t.Errorf("Count(%v) answers %d %v, want %d", c.l, got, err, c.want)
		}
	}
	for name, w := range wrongSets() {
		got, err := span.Count(w.l)
		wantErr(t, "Count, "+name, err, w.want)
		if got != 0 {
			t.Errorf("Count, %s: answers %d beside its error", name, got)
		}
	}
}

func TestS1Has(t *testing.T) {
	l := set{{Low: 0, High: 0}, {Low: 5, High: 6}, {Low: 9, High: 12}, {Low: api.MaxAddr, High: api.MaxAddr}}
	for a, want := range map[int]bool{
		0: true, 1: false, 4: false, 5: true, 6: true, 7: false, 8: false, 9: true, 11: true, 12: true, 13: false,
		api.MaxAddr - 1: false, api.MaxAddr: true,
	} {
		if got, err := span.Has(l, a); got != want || err != nil {
			t.Errorf("Has(%d) answers %v %v, want %v", a, got, err, want)
		}
	}
	if got, err := span.Has(nil, 0); got || err != nil {
		t.Errorf("Has of the empty set answers %v %v", got, err)
	}
}

func TestS1HasRefuses(t *testing.T) {
	for _, a := range []int{-1, api.MaxAddr + 1, math.MinInt, math.MaxInt} {
		got, err := span.Has(set{{Low: 0, High: api.MaxAddr}}, a)
		wantErr(t, "Has of no address", err, api.ErrRange)
		if got {
			t.Errorf("Has(%d) answers true beside its error", a)
		}
	}
	for name, w := range wrongSets() {
		for _, a := range []int{1, -1} {
			got, err := span.Has(w.l, a)
			wantErr(t, "Has, "+name, err, w.want)
			if got {
				t.Errorf("Has, %s: answers true beside its error", name)
			}
		}
	}
}

// members tells of each address of the world whether it is in some span of l.
func members(l set) [world]bool {
	var in [world]bool
	for _, s := range l {
		for a := s.Low; a <= s.High; a++ {
			in[a] = true
		}
	}
	return in
}

// spansOf is the set that has just these addresses of the world.
func spansOf(in [world]bool) set {
	var l set
	for a, yes := range in {
		if !yes {
			continue
		}
		if n := len(l); n > 0 && l[n-1].High == a-1 {
			l[n-1].High = a
		} else {
			l = append(l, api.Span{Low: a, High: a})
		}
	}
	return l
}

// someSpans are any spans of the world.
func someSpans(r *rand.Rand) set {
	var l set
	for range r.Intn(12) {
		low := r.Intn(world)
		l = append(l, api.Span{Low: low, High: min(world-1, low+r.Intn(5))})
	}
	return l
}

func TestS1AgreesWithCountingOneByOne(t *testing.T) {
	r := rand.New(rand.NewSource(1))
	for range 3000 {
		l, m := someSpans(r), someSpans(r)
		a, err := span.Make(l)
		wantSet(t, "Make", a, err, spansOf(members(l)))
		b, err := span.Make(m)
		wantSet(t, "Make", b, err, spansOf(members(m)))
		inA, inB := members(a), members(b)
		for _, op := range twos() {
			var want [world]bool
			for x := range want {
				want[x] = op.keep(inA[x], inB[x])
			}
			got, err := op.do(a, b)
			wantSet(t, op.name, got, err, spansOf(want))
			if err := span.Check(got); err != nil {
				t.Errorf("Check of %s says %v", op.name, err)
			}
		}
		for x, want := range inA {
			if got, err := span.Has(a, x); got != want || err != nil {
				t.Errorf("Has(%v, %d) answers %v %v", a, x, got, err)
			}
		}
	}
}

// TestS1LeavesItsArguments: P2 of this layer: nothing that is handed in is written, kept, or handed out.
func TestS1LeavesItsArguments(t *testing.T) {
	long := set{{Low: 20, High: 29}, {Low: 1, High: 9}, {Low: 40, High: 49}, {Low: 60, High: 69}}
	kept := slices.Clone(long)
	made, err := span.Make(long[:2])
	wantSet(t, "Make", made, err, set{{Low: 1, High: 9}, {Low: 20, High: 29}})
	a, b := long[1:2], long[2:3]
	var answers []set
	for _, op := range twos() {
		for _, pair := range [][2]set{{a, b}, {b, a}, {a, nil}, {nil, a}, {a, a}} {
			got, err := op.do(pair[0], pair[1])
			if err != nil {
				t.Errorf("%s says %v", op.name, err)
			}
			answers = append(answers, got)
		}
	}
	for _, l := range append(answers, made) {
		for i := range l {
			l[i] = api.Span{Low: -7, High: -7}
		}
	}
	if !slices.Equal(long, kept) {
		t.Errorf("what was handed in is now %v", long)
	}
}
