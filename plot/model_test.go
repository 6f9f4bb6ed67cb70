package plot_test

import (
	"fmt"
	"maps"
	"math/rand"
	"slices"
	"strings"
	"testing"

	"burgage/api"
	"burgage/desk"
	"burgage/plain"
	"burgage/plot"
)

// deal is a transaction as the chapter tells it, with a whole world of its own, by its keys. What is refused is thrown.
type deal struct {
	world   map[string]string
	reads   int
	changed map[string]int
}

func (m *deal) ask() {
	if m.reads++; m.reads > api.MaxReads {
		panic(api.ErrFull)
	}
}

func (m *deal) get(key string) (string, bool) {
	m.ask()
	v, ok := m.world[key]
	return v, ok
}

// under gives what stands behind a head of keys, rising.
func (m *deal) under(head string) []string {
	m.ask()
	var l []string
	for _, key := range slices.Sorted(maps.Keys(m.world)) {
		if rest, ok := strings.CutPrefix(key, head); ok {
			l = append(l, rest)
		}
	}
	return l
}

func (m *deal) change(key string) {
	m.changed[key] = 1
	if len(m.changed) > api.MaxChanges {
		delete(m.changed, key)
		panic(api.ErrFull)
	}
}

func (m *deal) put(key, value string) {
	m.change(key)
	m.world[key] = value
}

func (m *deal) drop(key string) {
	m.change(key)
	delete(m.world, key)
}

func (m *deal) prefixes(net string) []api.Prefix {
	var l []api.Prefix
	for _, s := range m.under("p/" + net + "/") {
		var p api.Prefix
		fmt.Sscanf(s, "%8x%2d", &p.Addr, &p.Len)
		l = append(l, p)
	}
	return l
}

func (m *deal) addrs(net string) []int {
	var l []int
	for _, s := range m.under("a/" + net + "/") {
		var a int
		fmt.Sscanf(s, "%x", &a)
		l = append(l, a)
	}
	return l
}

func size(p api.Prefix) int { return 1 << (32 - p.Len) }

func has(p api.Prefix, a int) bool { return p.Addr <= a && a < p.Addr+size(p) }

func isIn(p, q api.Prefix) bool { return p != q && p.Len >= q.Len && has(q, p.Addr) }

func pkey(net string, p api.Prefix) string { return fmt.Sprintf("p/%s/%08x%02d", net, p.Addr, p.Len) }

func akey(net string, a int) string { return fmt.Sprintf("a/%s/%08x", net, a) }

func unless(ok bool, e api.Errno) {
	if !ok {
		panic(e)
	}
}

// do gives a call's answer.
func (m *deal) do(c api.Call) (answer api.Answer, told api.Errno) {
	defer func() {
		if e := recover(); e != nil {
			answer, told = api.Answer{}, e.(api.Errno)
		}
	}()
	_, there := m.get("n/" + c.Name)
	if c.What == api.Net {
		unless(!there, api.ErrClash)
		m.put("n/"+c.Name, c.Owner)
		return answer, told
	}
	unless(there, api.ErrNone)
	switch c.What {
	case api.Add:
		_, there := m.get(pkey(c.Name, c.Prefix))
		unless(!there, api.ErrClash)
		m.put(pkey(c.Name, c.Prefix), c.Owner)
	case api.Take:
		m.take(c)
	case api.Place:
		l := m.prefixes(c.Name)
		_, there := m.get(akey(c.Name, c.Addr))
		unless(slices.ContainsFunc(l, func(p api.Prefix) bool { return has(p, c.Addr) }), api.ErrState)
		unless(!there, api.ErrClash)
		m.put(akey(c.Name, c.Addr), c.Owner)
	case api.Leave:
		_, there := m.get(akey(c.Name, c.Addr))
		unless(there, api.ErrNone)
		m.drop(akey(c.Name, c.Addr))
	case api.NextPrefix:
		answer.Prefix = m.nextPrefix(c)
	case api.NextAddr:
		answer.Addr = m.nextAddr(c)
	case api.List:
		answer.List = m.prefixes(c.Name)
	case api.Who:
		answer.Owner = m.who(c)
	}
	return answer, told
}

func (m *deal) take(c api.Call) {
	_, there := m.get(pkey(c.Name, c.Prefix))
	unless(there, api.ErrNone)
	l, placed := m.prefixes(c.Name), m.addrs(c.Name)
	for _, p := range l {
		unless(!isIn(p, c.Prefix), api.ErrState)
	}
	for _, a := range placed {
		other := slices.ContainsFunc(l, func(p api.Prefix) bool { return p != c.Prefix && has(p, a) })
		unless(!has(c.Prefix, a) || other, api.ErrState)
	}
	m.drop(pkey(c.Name, c.Prefix))
}

func (m *deal) nextPrefix(c api.Call) api.Prefix {
	l := m.prefixes(c.Name)
	unless(slices.Contains(l, c.Prefix), api.ErrNone)
	l = slices.DeleteFunc(l, func(p api.Prefix) bool { return !isIn(p, c.Prefix) })
	unless(len(l) <= api.MaxTree, api.ErrFull)
	unless(c.Len >= c.Prefix.Len && c.Len <= 32, api.ErrRange)
	for q := (api.Prefix{Addr: c.Prefix.Addr, Len: c.Len}); has(c.Prefix, q.Addr); q.Addr += size(q) {
		if slices.ContainsFunc(l, func(p api.Prefix) bool { return p == q || isIn(p, q) || isIn(q, p) }) {
			continue
		}
		unless(q != c.Prefix, api.ErrClash)
		m.put(pkey(c.Name, q), c.Owner)
		return q
	}
	panic(api.ErrNone)
}

func (m *deal) nextAddr(c api.Call) int {
	unless(slices.Contains(m.prefixes(c.Name), c.Prefix), api.ErrNone)
	placed := slices.DeleteFunc(m.addrs(c.Name), func(a int) bool { return !has(c.Prefix, a) })
	unless(len(placed) <= api.MaxUsed, api.ErrFull)
	for a := c.Prefix.Addr; has(c.Prefix, a); a++ {
		edge := c.Prefix.Len < 31 && (a == c.Prefix.Addr || !has(c.Prefix, a+1))
		if !edge && !slices.Contains(placed, a) {
			m.put(akey(c.Name, a), c.Owner)
			return a
		}
	}
	panic(api.ErrNone)
}

func (m *deal) who(c api.Call) string {
	if owner, there := m.get(akey(c.Name, c.Addr)); there {
		return owner
	}
	best := api.Prefix{Len: -1}
	for _, p := range m.prefixes(c.Name) {
		if has(p, c.Addr) && p.Len > best.Len {
			best = p
		}
	}
	unless(best.Len >= 0, api.ErrNone)
	return m.world[pkey(c.Name, best)]
}

func pick[T any](r *rand.Rand, l []T) T { return l[r.Intn(len(l))] }

// someCall with which nothing is wrong, in a world so small that calls often meet.
func someCall(r *rand.Rand) api.Call {
	p := cutTo(r.Intn(64), 26+r.Intn(7))
	if r.Intn(12) == 0 {
		p = cutTo(0, r.Intn(26))
	}
	return api.Call{
		What:   pick(r, []int{1, 2, 2, 2, 3, 4, 5, 6, 6, 7, 7, 8, 9, 9}),
		Name:   pick(r, []string{"x", "x", "x", "xa", "y"}),
		Prefix: p,
		Len:    p.Len + r.Intn(5) - 1,
		Addr:   r.Intn(70),
		Owner:  pick(r, []string{"joe", "sue", "kim", "tom"}),
	}
}

// wantSame has a call both in a deal and at a desk.
func wantSame(t *testing.T, m *deal, d *desk.Desk, id int, c api.Call) (api.Answer, api.Errno) {
	t.Helper()
	want, told := m.do(c)
	got, err := plot.Do(d, id, c)
	if plain.Told(err) != told || !same(got, want) {
		t.Fatalf("Do of %+v: answers %+v %v, want %+v %v; there is %v", c, got, err, want, told, m.world)
	}
	return want, told
}

// TestP2P3Model has transactions one behind the other, that are committed or not, at a desk and in a model.
func TestP2P3Model(t *testing.T) {
	seen := map[string]int{}
	for seed := range int64(300) {
		r := rand.New(rand.NewSource(seed))
		d := fresh(t)
		world := map[string]string{}
		for range 12 {
			m := &deal{maps.Clone(world), 0, map[string]int{}}
			id := begin(t, d)
			for range 3 + r.Intn(80) {
				c := someCall(r)
				_, told := wantSame(t, m, d, id, c)
				seen[fmt.Sprint(c.What, told)]++
			}
			if r.Intn(4) == 0 {
				d.Abort(id)
				continue
			}
			commit(t, d, id)
			world = m.world
		}
		wantWorld(t, d, world)
	}
	// Each error of each call must have been met, so that what was held to the model is all of it.
	for _, s := range []string{
		"1 OK", "1 ErrClash", "1 ErrFull", "2 OK", "2 ErrNone", "2 ErrClash", "2 ErrFull",
		"3 OK", "3 ErrNone", "3 ErrState", "3 ErrFull", "4 OK", "4 ErrNone", "4 ErrState", "4 ErrClash", "4 ErrFull",
		"5 OK", "5 ErrNone", "5 ErrFull", "6 OK", "6 ErrNone", "6 ErrRange", "6 ErrClash", "6 ErrFull",
		"7 OK", "7 ErrNone", "7 ErrFull", "8 OK", "8 ErrNone", "8 ErrFull", "9 OK", "9 ErrNone", "9 ErrFull",
	} {
		if seen[s] == 0 {
			t.Errorf("%s was never met", s)
		}
	}
}

func wantWorld(t *testing.T, d *desk.Desk, world map[string]string) {
	t.Helper()
	var want []api.Pair
	for _, key := range slices.Sorted(maps.Keys(world)) {
		want = append(want, api.Pair{Key: key, Value: world[key]})
	}
	if !slices.Equal(d.All(), want) {
		t.Fatalf("All: %v, want %v", d.All(), want)
	}
}
