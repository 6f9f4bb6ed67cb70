package audit_test

import (
	"cmp"
	"fmt"
	"math/bits"
	"math/rand"
	"regexp"
	"slices"
	"strconv"
	"testing"

	"burgage/api"
	"burgage/audit"
	"burgage/plain"
)

var (
	name      = regexp.MustCompile(`\A[a-z]{1,8}\z`)
	netKey    = regexp.MustCompile(`\An/([a-z]{1,8})\z`)
	addrKey   = regexp.MustCompile(`\Aa/([a-z]{1,8})/([0-9a-f]{8})\z`)
	prefixKey = regexp.MustCompile(`\Ap/([a-z]{1,8})/([0-9a-f]{8})([0-9]{2})\z`)
)

// said is what a key says, by another way of reading: of a net, or of all addresses from low to high in one.
type said struct {
	kind      byte
	net       string
	low, high int
}

// prefix of as many addresses.
func (s said) prefix() api.Prefix { return pre(s.low, 33-bits.Len(uint(s.high-s.low+1))) }

func hear(key string) (s said, ok bool) {
	if m := netKey.FindStringSubmatch(key); m != nil {
		return said{'n', m[1], 0, 0}, true
	}
	if m := addrKey.FindStringSubmatch(key); m != nil {
		a, _ := strconv.ParseInt(m[2], 16, 64)
		return said{'a', m[1], int(a), int(a)}, true
	}
	if m := prefixKey.FindStringSubmatch(key); m != nil {
		a, _ := strconv.ParseInt(m[2], 16, 64)
		n, _ := strconv.Atoi(m[3])
		if n <= 32 && int(a)%(1<<(32-n)) == 0 {
			return said{'p', m[1], int(a), int(a) + 1<<(32-n) - 1}, true
		}
	}
	return said{}, false
}

// model is a list, and what all of its keys say; of one that says nothing the kind is 0.
type model struct {
	l     []api.Pair
	says  []said
	place int
	told  api.Errno
}

func newModel(l []api.Pair) model {
	m := model{l: slices.Clone(l)}
	for _, pair := range l {
		s, _ := hear(pair.Key)
		m.says = append(m.says, s)
	}
	for i := range l {
		if m.told = m.wrong(i); m.told != api.OK {
			m.place = i
			break
		}
	}
	return m
}

// some tells whether some key says what is asked for.
func (m model) some(wanted func(said) bool) bool { return slices.ContainsFunc(m.says, wanted) }

// wrong tells what is wrong with the pair at a place, in the words of the chapter.
func (m model) wrong(i int) api.Errno {
	s := m.says[i]
	if i > 0 && m.l[i-1].Key >= m.l[i].Key {
		return api.ErrShape
	}
	if s.kind == 0 || !name.MatchString(m.l[i].Value) {
		return api.ErrSyntax
	}
	if s.kind != 'n' && !m.some(func(o said) bool { return o.kind == 'n' && o.net == s.net }) {
		return api.ErrNone
	}
	having := func(o said) bool { return o.kind == 'p' && o.net == s.net && o.low <= s.low && s.low <= o.high }
	if s.kind == 'a' && !m.some(having) {
		return api.ErrState
	}
	return api.OK
}

func (m model) prefixes(net string) ([]api.Prefix, api.Errno) {
	if m.told != api.OK {
		return nil, m.told
	}
	if !m.some(func(s said) bool { return s.kind == 'n' && s.net == net }) {
		return nil, api.ErrNone
	}
	var out []api.Prefix
	for _, s := range m.says {
		if s.kind == 'p' && s.net == net {
			out = append(out, s.prefix())
		}
	}
	slices.SortFunc(out, func(p, q api.Prefix) int { return cmp.Or(p.Addr-q.Addr, p.Len-q.Len) })
	if len(out) > 60 {
		return nil, api.ErrFull
	}
	return out, api.OK
}

func (m model) use(net string, p api.Prefix) (taken, all int, e api.Errno) {
	if m.told != api.OK {
		return 0, 0, m.told
	}
	if !m.some(func(s said) bool { return s.kind == 'p' && s.net == net && s.prefix() == p }) {
		return 0, 0, api.ErrNone
	}
	size := 1 << (32 - p.Len)
	in := 0
	for _, s := range m.says {
		at := s.low - p.Addr
		if s.kind != 'a' || s.net != net || at < 0 || at >= size {
			continue
		}
		in++
		if size <= 2 || at > 0 && at < size-1 {
			taken++
		}
	}
	if in > 200 {
		return 0, 0, api.ErrFull
	}
	if size > 2 {
		size -= 2
	}
	return taken, size, api.OK
}

// wantModel holds all three calls to the model, and gives what Check tells.
func wantModel(t *testing.T, l []api.Pair, nets []string, prefixes []api.Prefix) api.Errno {
	t.Helper()
	m := newModel(l)
	wantCheck(t, l, m.place, m.told)
	for _, net := range nets {
		want, e := m.prefixes(net)
		wantPrefixes(t, l, net, want, e)
		for _, p := range prefixes {
			taken, all, e := m.use(net, p)
			wantUse(t, l, net, p, taken, all, e)
		}
	}
	if !slices.Equal(l, m.l) {
		t.Errorf("the list %q was written into: %q", m.l, l)
	}
	return m.told
}

// TestU1SmallWorld has each list of at most four out of some pairs, in each order, with the same one more than once, too.
func TestU1SmallWorld(t *testing.T) {
	pairs := row(
		"a/x/00000002=o", "a/x/00000004=o", "a/y/00000002=o", "n/x=o", "n/x=O", "n/y=o", "p/x/0000000000=o", "p/x/0000000030=o",
		"p/x/0000000030=", "p/x/0000000232=o", "p/y/0000000030=o", "p/x/0000000330=o", "",
	)
	seen := map[api.Errno]int{}
	var all func(l []api.Pair)
	all = func(l []api.Pair) {
		seen[wantModel(t, l, []string{"x", "y"}, []api.Prefix{pre(0, 30), pre(2, 32)})]++
		if len(l) == 4 || t.Failed() {
			return
		}
		for _, p := range pairs {
			all(append(slices.Clone(l), p))
		}
	}
	all(nil)
	for _, e := range []api.Errno{api.OK, api.ErrShape, api.ErrSyntax, api.ErrNone, api.ErrState} {
		if seen[e] < 30 {
			t.Errorf("%v was met %d times", e, seen[e])
		}
	}
}

func one[E any](r *rand.Rand, l []E) E { return l[r.Intn(len(l))] }

// someKey mostly is of chapter 11, in a world so small that keys often meet.
func someKey(r *rand.Rand) string {
	net := one(r, []string{"x", "x", "xa", "y"})
	n := 26 + r.Intn(7)
	switch r.Intn(9) {
	case 0, 1:
		return "n/" + net
	case 2, 3, 4:
		return fmt.Sprintf("p/%s/%08x%02d", net, cutTo(r.Intn(128), n).Addr, n)
	}
	return fmt.Sprintf("a/%s/%08x", net, r.Intn(128))
}

// spoil does something to a list that may make it wrong.
func spoil(r *rand.Rand, l []api.Pair) []api.Pair {
	if len(l) == 0 {
		return l
	}
	i, j := r.Intn(len(l)), r.Intn(len(l))
	switch r.Intn(6) {
	case 0:
		return slices.Delete(l, i, i+1)
	case 1:
		l[i], l[j] = l[j], l[i]
	case 2:
		l[i] = l[j]
	case 3:
		l[i].Value = one(r, []string{"", "O", "o ", "ooooooooo", "oooooooo", "z"})
	case 4:
		b := []byte(l[i].Key)
		b[r.Intn(len(b))] = one(r, []byte("0123456789abcdefgnpxyzAX/ \x00\xff"))
		l[i].Key = string(b)
	case 5:
		return slices.Insert(l, i, api.Pair{Key: someKey(r), Value: "o"})
	}
	return l
}

// orderly leaves of a list that rises what has nothing wrong with it, until all is in order.
func orderly(l []api.Pair) []api.Pair {
	for {
		m := newModel(l)
		if m.told == api.OK {
			return l
		}
		l = slices.Delete(l, m.place, m.place+1)
	}
}

// TestU1Model holds the calls to the model at lists that are in order, or were until something was done to them.
func TestU1Model(t *testing.T) {
	seen := map[api.Errno]int{}
	for seed := range int64(1500) {
		r := rand.New(rand.NewSource(seed))
		var keys []string
		for range r.Intn(60) {
			keys = append(keys, someKey(r))
		}
		slices.Sort(keys)
		l := orderly(rising(slices.Compact(keys)...))
		prefixes := []api.Prefix{cutTo(r.Intn(128), 26), cutTo(r.Intn(128), 29), cutTo(r.Intn(128), 32)}
		for _, pair := range l {
			if s, _ := hear(pair.Key); s.kind == 'p' && r.Intn(3) == 0 {
				prefixes = append(prefixes, s.prefix())
			}
		}
		for range 4 {
			seen[wantModel(t, l, []string{"x", "xa", "y", "z", ""}, prefixes)]++
			l = spoil(r, l)
		}
		if t.Failed() {
			t.Fatalf("seed %d", seed)
		}
	}
	for _, e := range []api.Errno{api.OK, api.ErrShape, api.ErrSyntax, api.ErrNone, api.ErrState} {
		if seen[e] < 100 {
			t.Errorf("%v was met %d times", e, seen[e])
		}
	}
}

// TestU1EachByte has each byte instead of, and ahead of, each one of keys, and each one left out.
func TestU1EachByte(t *testing.T) {
	l := row("a/xy/0000001a=o", "n/xy=o", "p/xy/0000001028=o", "p/xy/0000001032=o")
	wantCheck(t, l, 0, api.OK)
	for i := range l {
		key := l[i].Key
		try := func(other string) {
			m := slices.Clone(l)
			m[i].Key = other
			wantModel(t, m, nil, nil)
			wantModel(t, m[i:i+1], nil, nil)
		}
		for at := range len(key) {
			try(key[:at])
			try(key[:at] + key[at+1:])
			for b := range 256 {
				try(key[:at] + string([]byte{byte(b)}) + key[at+1:])
				try(key[:at] + string([]byte{byte(b)}) + key[at:])
			}
		}
	}
}

// TestU1SameAgain has what is answered hang on nothing but what is handed in.
func TestU1SameAgain(t *testing.T) {
	r := rand.New(rand.NewSource(1))
	for range 200 {
		l := town()
		for range r.Intn(3) {
			l = spoil(r, l)
		}
		place, err := audit.Check(l)
		got, told := audit.Prefixes(l, "x")
		for range 5 {
			wantCheck(t, l, place, plain.Told(err))
			wantPrefixes(t, l, "x", got, plain.Told(told))
		}
	}
}
