package plot_test

import (
	"fmt"
	"math"
	"testing"

	"burgage/api"
	"burgage/desk"
	"burgage/plot"
)

// one is a call on net x, for o, and what it should be answered.
type one struct {
	c    api.Call
	want api.Answer
	told api.Errno
}

// wantRow has calls one behind the other in one transaction.
func wantRow(t *testing.T, rows []string, row ...one) (*desk.Desk, int) {
	t.Helper()
	d, id := stocked(t, append([]string{"n/x=o"}, rows...)...)
	for _, o := range row {
		o.c.Name = "x"
		if o.c.Owner == "" {
			o.c.Owner = "o"
		}
		wantDo(t, d, id, o.c, o.want, o.told)
	}
	return d, id
}

func add(p api.Prefix, told api.Errno) one {
	return one{c: api.Call{What: api.Add, Prefix: p}, told: told}
}

func take(p api.Prefix, told api.Errno) one {
	return one{c: api.Call{What: api.Take, Prefix: p}, told: told}
}

func place(a int, told api.Errno) one {
	return one{c: api.Call{What: api.Place, Addr: a}, told: told}
}

func leave(a int, told api.Errno) one {
	return one{c: api.Call{What: api.Leave, Addr: a}, told: told}
}

func nextPrefix(p api.Prefix, n int, want api.Prefix, told api.Errno) one {
	return one{api.Call{What: api.NextPrefix, Prefix: p, Len: n}, api.Answer{Prefix: want}, told}
}

func nextAddr(p api.Prefix, want int, told api.Errno) one {
	return one{api.Call{What: api.NextAddr, Prefix: p}, api.Answer{Addr: want}, told}
}

func list(want ...api.Prefix) one {
	return one{api.Call{What: api.List}, api.Answer{List: want}, api.OK}
}

func who(a int, want string, told api.Errno) one {
	return one{api.Call{What: api.Who, Addr: a}, api.Answer{Owner: want}, told}
}

var (
	none  = api.Prefix{}
	whole = api.Prefix{}
	last  = api.Prefix{Addr: api.MaxAddr, Len: 32}
)

func TestP3AddTake(t *testing.T) {
	wantRow(t, nil,
		take(pre(0, 28), api.ErrNone),
		add(pre(0, 28), api.OK),
		add(pre(0, 28), api.ErrClash),
		add(pre(0, 29), api.OK),
		add(pre(0, 27), api.OK),
		take(pre(0, 27), api.ErrState),
		take(pre(0, 28), api.ErrState),
		take(pre(0, 30), api.ErrNone),
		take(pre(8, 29), api.ErrNone),
		take(pre(0, 29), api.OK),
		take(pre(0, 29), api.ErrNone),
		take(pre(0, 28), api.OK),
		take(pre(0, 27), api.OK),
		take(pre(0, 27), api.ErrNone),
		list(),
		add(pre(0, 28), api.OK),
		list(pre(0, 28)),
	)
	wantRow(t, nil,
		add(whole, api.OK),
		add(last, api.OK),
		take(whole, api.ErrState),
		take(last, api.OK),
		take(whole, api.OK),
	)
}

// TestP3TakeAddrs has addresses at the edges of a prefix: each one needs it, but where another one has them.
func TestP3TakeAddrs(t *testing.T) {
	p := pre(16, 28)
	for a, told := range map[int]api.Errno{15: api.OK, 16: api.ErrState, 24: api.ErrState, 31: api.ErrState, 32: api.OK} {
		key := plot.AddrKey("x", a) + "=o"
		wantRow(t, []string{key}, add(p, api.OK), take(p, told))
		wantRow(t, []string{key}, add(p, api.OK), add(pre(32, 27), api.OK), add(pre(0, 28), api.OK), take(p, told))
		wantRow(t, []string{key}, add(p, api.OK), add(pre(0, 27), api.OK), take(p, api.OK))
		wantRow(t, []string{key}, add(p, api.OK), add(whole, api.OK), take(p, api.OK))
		wantRow(t, []string{key}, add(p, api.OK), add(pre(a, 32), api.OK), add(pre(0, 26), api.OK), take(pre(a, 32), api.OK))
	}
	// Of two addresses one is left by itself.
	wantRow(t, []string{"p/x/0000001028=o", "p/x/0000001830=o", "a/x/00000011=o", "a/x/00000019=o"},
		take(pre(16, 28), api.ErrState),
		take(pre(24, 30), api.OK),
		take(pre(16, 28), api.ErrState),
		leave(17, api.OK),
		take(pre(16, 28), api.ErrState),
		leave(25, api.OK),
		take(pre(16, 28), api.OK),
	)
}

func TestP3PlaceLeave(t *testing.T) {
	wantRow(t, nil,
		place(3, api.ErrState),
		leave(3, api.ErrNone),
		add(pre(16, 28), api.OK),
		place(15, api.ErrState),
		place(16, api.OK),
		place(31, api.OK),
		place(32, api.ErrState),
		place(16, api.ErrClash),
		add(pre(0, 27), api.OK),
		place(15, api.OK),
		place(31, api.ErrClash),
		leave(31, api.OK),
		leave(31, api.ErrNone),
		place(31, api.OK),
		place(api.MaxAddr, api.ErrState),
		add(last, api.OK),
		place(api.MaxAddr, api.OK),
		add(whole, api.OK),
		place(0, api.OK),
	)
}

// TestP3OwnAlone has in two nets the same: they know nothing of each other.
func TestP3OwnAlone(t *testing.T) {
	d, id := stocked(t, "n/x=o", "n/xa=o", "n/w=o", "p/xa/0000000028=o", "p/w/0000000028=o", "a/xa/00000003=o", "a/w/00000003=o")
	for _, o := range []one{
		list(), place(3, api.ErrState), leave(3, api.ErrNone), take(pre(0, 28), api.ErrNone), who(3, "", api.ErrNone),
		nextPrefix(pre(0, 28), 30, none, api.ErrNone), nextAddr(pre(0, 28), 0, api.ErrNone),
		add(pre(0, 28), api.OK), list(pre(0, 28)), who(3, "o", api.OK),
		nextPrefix(pre(0, 28), 30, pre(0, 30), api.OK), nextAddr(pre(0, 28), 1, api.OK), place(3, api.OK),
	} {
		o.c.Name, o.c.Owner = "x", "o"
		wantDo(t, d, id, o.c, o.want, o.told)
	}
	wantDo(t, d, id, api.Call{What: api.Take, Name: "w", Prefix: pre(0, 28)}, api.Answer{}, api.ErrState)
	wantDo(t, d, id, api.Call{What: api.List, Name: "xa"}, api.Answer{List: []api.Prefix{pre(0, 28)}}, api.OK)
}

func TestP3NextPrefix(t *testing.T) {
	p := pre(16, 28)
	wantRow(t, nil,
		nextPrefix(p, 30, none, api.ErrNone),
		nextPrefix(p, 33, none, api.ErrNone),
		add(pre(0, 27), api.OK),
		nextPrefix(p, 30, none, api.ErrNone),
		add(p, api.OK),
		nextPrefix(p, 27, none, api.ErrRange),
		nextPrefix(p, 33, none, api.ErrRange),
		nextPrefix(p, math.MinInt, none, api.ErrRange),
		nextPrefix(p, math.MaxInt, none, api.ErrRange),
		nextPrefix(p, 28, none, api.ErrClash),
		nextPrefix(p, 30, pre(16, 30), api.OK),
		nextPrefix(p, 28, none, api.ErrNone),
		nextPrefix(p, 27, none, api.ErrRange),
		nextPrefix(p, 29, pre(24, 29), api.OK),
		nextPrefix(p, 32, pre(20, 32), api.OK),
		nextPrefix(p, 31, pre(22, 31), api.OK),
		nextPrefix(p, 32, pre(21, 32), api.OK),
		nextPrefix(p, 32, none, api.ErrNone),
		nextPrefix(pre(0, 27), 29, pre(0, 29), api.OK),
		nextPrefix(pre(20, 32), 32, none, api.ErrClash),
		take(pre(24, 29), api.OK),
		nextPrefix(p, 32, pre(24, 32), api.OK),
		list(pre(0, 27), pre(0, 29), p, pre(16, 30), pre(20, 32), pre(21, 32), pre(22, 31), pre(24, 32)),
	)
	// An address that is placed takes nothing away from prefixes.
	wantRow(t, []string{"p/x/0000001028=o", "a/x/00000010=o", "a/x/00000011=o"},
		nextPrefix(p, 30, pre(16, 30), api.OK), who(16, "o", api.OK))
	wantRow(t, []string{"p/x/0000000000=o", "p/x/ffffffff32=o"},
		nextPrefix(whole, 0, none, api.ErrNone),
		nextPrefix(whole, 1, pre(0, 1), api.OK),
		nextPrefix(whole, 1, none, api.ErrNone),
		nextPrefix(last, 32, none, api.ErrClash))
	wantRow(t, []string{"p/x/0000000000=o"}, nextPrefix(whole, 0, none, api.ErrClash))
}

// many gives n rows of prefixes of one address each, from an address on.
func many(n, from int) []string {
	var rows []string
	for i := range n {
		rows = append(rows, plot.PrefixKey("x", pre(from+i, 32))+"=o")
	}
	return rows
}

// TestP3NextPrefixFull has as many prefixes within one as First takes, and one more; those beside it do not count.
func TestP3NextPrefixFull(t *testing.T) {
	p := pre(1024, 24)
	rows := append(many(api.MaxTree, 1024), plot.PrefixKey("x", p)+"=o")
	rows = append(rows, many(20, 1280)...)
	rows = append(rows, many(20, 1004)...)
	rows = append(rows, plot.PrefixKey("x", pre(0, 16))+"=o")
	wantRow(t, rows,
		nextPrefix(p, 33, none, api.ErrRange),
		nextPrefix(p, 24, none, api.ErrNone),
		nextPrefix(p, 32, pre(1024+api.MaxTree, 32), api.OK),
		nextPrefix(p, 32, none, api.ErrFull),
		nextPrefix(p, 33, none, api.ErrFull),
		nextPrefix(pre(0, 16), 32, none, api.ErrFull),
		take(pre(1024, 32), api.OK),
		nextPrefix(p, 32, pre(1024, 32), api.OK))
	d, id := wantRow(t, rows)
	got, err := plot.Do(d, id, api.Call{What: api.List, Name: "x"})
	if len(got.List) != len(rows) || err != nil {
		t.Errorf("List: %d prefixes, %v, want %d", len(got.List), err, len(rows))
	}
}

func TestP3NextAddr(t *testing.T) {
	p := pre(16, 29)
	wantRow(t, nil,
		nextAddr(p, 0, api.ErrNone),
		add(pre(16, 28), api.OK),
		nextAddr(p, 0, api.ErrNone),
		add(p, api.OK),
		nextAddr(p, 17, api.OK),
		nextAddr(p, 18, api.OK),
		place(20, api.OK),
		nextAddr(pre(16, 28), 19, api.OK),
		nextAddr(p, 21, api.OK),
		nextAddr(p, 22, api.OK),
		nextAddr(p, 0, api.ErrNone),
		nextAddr(pre(16, 28), 23, api.OK),
		leave(18, api.OK),
		nextAddr(p, 18, api.OK),
		who(18, "o", api.OK),
	)
	wantRow(t, nil,
		add(pre(16, 30), api.OK), place(16, api.OK), place(19, api.OK),
		nextAddr(pre(16, 30), 17, api.OK), nextAddr(pre(16, 30), 18, api.OK), nextAddr(pre(16, 30), 0, api.ErrNone))
	wantRow(t, nil,
		add(pre(16, 31), api.OK), nextAddr(pre(16, 31), 16, api.OK), nextAddr(pre(16, 31), 17, api.OK), nextAddr(pre(16, 31), 0, api.ErrNone))
	wantRow(t, nil,
		add(last, api.OK), nextAddr(last, api.MaxAddr, api.OK), nextAddr(last, 0, api.ErrNone),
		add(whole, api.OK), nextAddr(whole, 1, api.OK), leave(api.MaxAddr, api.OK), nextAddr(last, api.MaxAddr, api.OK))
}

// TestP3NextAddrFull has as many addresses in a prefix as Next takes, and one more; those beside it do not count.
func TestP3NextAddrFull(t *testing.T) {
	p := pre(1024, 24)
	rows := []string{plot.PrefixKey("x", p) + "=o", plot.PrefixKey("x", pre(0, 16)) + "=o"}
	for i := range api.MaxUsed {
		rows = append(rows, plot.AddrKey("x", 1024+i)+"=o")
	}
	for i := range 20 {
		rows = append(rows, plot.AddrKey("x", 1280+i)+"=o", plot.AddrKey("x", 1023-i)+"=o")
	}
	wantRow(t, rows,
		nextAddr(pre(0, 16), 0, api.ErrFull),
		nextAddr(p, 1024+api.MaxUsed, api.OK),
		nextAddr(p, 0, api.ErrFull),
		leave(1024, api.OK),
		nextAddr(p, 1025+api.MaxUsed, api.OK),
		nextAddr(p, 0, api.ErrFull))
}

func TestP3List(t *testing.T) {
	wantRow(t, nil, list())
	wantRow(t, nil,
		add(pre(1<<31, 1), api.OK), add(pre(16, 30), api.OK), add(pre(16, 28), api.OK), add(pre(0, 9), api.OK), add(whole, api.OK),
		add(last, api.OK), add(pre(0, 10), api.OK), add(pre(0xa0000000, 32), api.OK), add(pre(0x90000000, 4), api.OK),
		list(whole, pre(0, 9), pre(0, 10), pre(16, 28), pre(16, 30), pre(1<<31, 1), pre(0x90000000, 4), pre(0xa0000000, 32), last),
		take(pre(16, 30), api.OK),
		list(whole, pre(0, 9), pre(0, 10), pre(16, 28), pre(1<<31, 1), pre(0x90000000, 4), pre(0xa0000000, 32), last),
	)
}

// TestP3ListFresh writes into what a List answers: the next one knows nothing of it.
func TestP3ListFresh(t *testing.T) {
	d, id := stocked(t, "n/x=o", "p/x/0000001028=o", "p/x/0000001030=o")
	for range 3 {
		got, err := plot.Do(d, id, api.Call{What: api.List, Name: "x"})
		if err != nil || fmt.Sprint(got.List) != "[{16 28} {16 30}]" {
			t.Fatalf("List: %v %v", got.List, err)
		}
		got.List[0] = whole
		_ = append(got.List[:1], last)
	}
}

func TestP3Who(t *testing.T) {
	rows := []string{"p/x/0000001028=wide", "p/x/0000001030=narrow", "p/x/0000001432=single", "a/x/00000011=guest"}
	wantRow(t, rows,
		who(15, "", api.ErrNone),
		who(16, "narrow", api.OK),
		who(17, "guest", api.OK),
		who(19, "narrow", api.OK),
		who(20, "single", api.OK),
		who(21, "wide", api.OK),
		who(31, "wide", api.OK),
		who(32, "", api.ErrNone),
		who(api.MaxAddr, "", api.ErrNone),
		one{c: api.Call{What: api.Add, Prefix: whole, Owner: "all"}},
		who(15, "all", api.OK),
		who(16, "narrow", api.OK),
		who(api.MaxAddr, "all", api.OK),
		one{c: api.Call{What: api.Place, Addr: 0, Owner: "first"}},
		who(0, "first", api.OK),
		leave(17, api.OK),
		who(17, "narrow", api.OK),
		one{c: api.Call{What: api.NextAddr, Prefix: pre(16, 30), Owner: "next"}, want: api.Answer{Addr: 17}},
		who(17, "next", api.OK),
		one{c: api.Call{What: api.NextPrefix, Prefix: pre(16, 28), Len: 29, Owner: "half"}, want: api.Answer{Prefix: pre(24, 29)}},
		who(24, "half", api.OK),
	)
	// An address that no prefix has any more is still somebody's.
	wantRow(t, []string{"a/x/00000011=guest"}, who(17, "guest", api.OK), who(16, "", api.ErrNone))
}

// TestP3StrangeKeys puts keys among those of a net that are none of chapter 11: they are neither prefixes nor addresses.
func TestP3StrangeKeys(t *testing.T) {
	rows := []string{
		"p/x/=o", "p/x/none=o", "p/x/0000001833=o", "p/x/0000001101=o", "p/x/0000001A32=o", "p/x/00000018=o", "p/x/\xff=o", "p/x//0000001830=o",
		"p/x/0000001028=o",
		"a/x/=o", "a/x/none=o", "a/x/0000001A=o", "a/x/000000-1=o", "a/x/-0000001=o", "a/x/000000011=o", "a/x/\xff=o", "a/x//0000011=o",
	}
	wantRow(t, rows,
		list(pre(16, 28)),
		who(0, "", api.ErrNone),
		who(26, "o", api.OK),
		place(0, api.ErrState),
		nextPrefix(pre(16, 28), 28, none, api.ErrClash),
		nextPrefix(pre(16, 28), 29, pre(16, 29), api.OK),
		nextAddr(pre(16, 28), 17, api.OK),
		leave(17, api.OK),
		take(pre(16, 29), api.OK),
		take(pre(16, 28), api.OK),
	)
}
