package plot_test

import (
	"fmt"
	"math"
	"math/rand"
	"reflect"
	"regexp"
	"strconv"
	"strings"
	"testing"

	"burgage/api"
	"burgage/desk"
	"burgage/plain"
	"burgage/plot"
)

// names may be; the first and the last letter, the shortest and the longest are among them.
var names = []string{"a", "z", "x", "az", "za", "burgage", "abcdefgh", "zzzzzzzz"}

var wrongNames = []string{
	"", "abcdefghi", strings.Repeat("a", 300), "A", "aB", "a1", "1", "a b", " a", "a ", "a/", "/a", "a/b", "a-b",
	"`", "{", "a`", "a{", "\x00", "a\x00", "\n", "a\n", "ä", "aä", "\xff", "a\xe1", "é", "ａ",
}

var wrongAddrs = []int{-1, api.MaxAddr + 1, math.MinInt, math.MaxInt}

var wrongPrefixes = []struct {
	p    api.Prefix
	want api.Errno
}{
	{api.Prefix{Addr: 0, Len: -1}, api.ErrRange},
	{api.Prefix{Addr: 0, Len: 33}, api.ErrRange},
	{api.Prefix{Addr: -1, Len: 32}, api.ErrRange},
	{api.Prefix{Addr: api.MaxAddr + 1, Len: 0}, api.ErrRange},
	{api.Prefix{Addr: math.MinInt, Len: math.MaxInt}, api.ErrRange},
	{api.Prefix{Addr: math.MaxInt, Len: math.MinInt}, api.ErrRange},
	{api.Prefix{Addr: 1, Len: 31}, api.ErrShape},
	{api.Prefix{Addr: 1, Len: 0}, api.ErrShape},
	{api.Prefix{Addr: api.MaxAddr, Len: 31}, api.ErrShape},
}

func fresh(t *testing.T) *desk.Desk {
	t.Helper()
	d, err := desk.New(api.MaxRoom)
	if err != nil {
		t.Fatal(err)
	}
	return d
}

func begin(t *testing.T, d *desk.Desk) int {
	t.Helper()
	id, err := d.Begin()
	if err != nil {
		t.Fatal(err)
	}
	return id
}

func commit(t *testing.T, d *desk.Desk, id int) {
	t.Helper()
	if _, err := d.Commit(id); err != nil {
		t.Fatalf("Commit of %d: %v", id, err)
	}
}

// stock puts keys straight onto a desk, each with the value that follows behind its =, and commits them.
func stock(t *testing.T, d *desk.Desk, rows ...string) {
	t.Helper()
	for len(rows) > 0 {
		n := min(len(rows), api.MaxChanges)
		id := begin(t, d)
		for _, row := range rows[:n] {
			key, value, _ := strings.Cut(row, "=")
			if err := d.Put(id, key, value); err != nil {
				t.Fatalf("Put of %q: %v", row, err)
			}
		}
		commit(t, d, id)
		rows = rows[n:]
	}
}

// stocked gives a desk that has these rows, and a transaction on it.
func stocked(t *testing.T, rows ...string) (*desk.Desk, int) {
	t.Helper()
	d := fresh(t)
	stock(t, d, rows...)
	return d, begin(t, d)
}

// wantDo holds Do to what is wanted; beside an error all of the answer must be empty.
func wantDo(t *testing.T, d *desk.Desk, id int, c api.Call, want api.Answer, told api.Errno) {
	t.Helper()
	got, err := plot.Do(d, id, c)
	if plain.Told(err) != told || !same(got, want) {
		t.Errorf("Do of %d, %+v: answers %+v %v, want %+v %v", id, c, got, err, want, told)
	}
}

// same tells whether answers are the same; an empty list and nil are.
func same(a, b api.Answer) bool {
	if len(a.List) == 0 && len(b.List) == 0 {
		a.List, b.List = nil, nil
	}
	return reflect.DeepEqual(a, b)
}

// wantThere holds what a transaction sees of a key to what is wanted; `-` is that it is not there.
func wantThere(t *testing.T, d *desk.Desk, id int, key, want string) {
	t.Helper()
	got, err := d.Get(id, key)
	if err != nil {
		got = "-"
	}
	if got != want {
		t.Errorf("%q: has %q, want %q", key, got, want)
	}
}

func TestP1Name(t *testing.T) {
	for _, s := range names {
		if err := plot.Name(s); err != nil {
			t.Errorf("Name of %q: %v", s, err)
		}
	}
	for _, s := range wrongNames {
		if err := plot.Name(s); plain.Told(err) != api.ErrSyntax {
			t.Errorf("Name of %q: %v, want ErrSyntax", s, err)
		}
	}
}

// TestP1NameEachByte has each byte at each place of names of each length.
func TestP1NameEachByte(t *testing.T) {
	for n := range 11 {
		for at := range n {
			for b := range 256 {
				s := []byte(strings.Repeat("m", n))
				s[at] = byte(b)
				want := api.OK
				if n > 8 || b < 'a' || b > 'z' {
					want = api.ErrSyntax
				}
				if err := plot.Name(string(s)); plain.Told(err) != want {
					t.Errorf("Name of %q: %v, want %v", s, err, want)
				}
			}
		}
	}
}

func TestP1Keys(t *testing.T) {
	for _, c := range []struct{ got, want string }{
		{plot.NetKey("x"), "n/x"},
		{plot.NetKey("abcdefgh"), "n/abcdefgh"},
		{plot.PrefixKey("x", api.Prefix{Addr: 64, Len: 26}), "p/x/0000004026"},
		{plot.PrefixKey("x", api.Prefix{}), "p/x/0000000000"},
		{plot.PrefixKey("x", api.Prefix{Addr: 1 << 31, Len: 1}), "p/x/8000000001"},
		{plot.PrefixKey("x", api.Prefix{Addr: 1 << 23, Len: 9}), "p/x/0080000009"},
		{plot.PrefixKey("x", api.Prefix{Addr: 1 << 22, Len: 10}), "p/x/0040000010"},
		{plot.PrefixKey("abcdefgh", api.Prefix{Addr: api.MaxAddr, Len: 32}), "p/abcdefgh/ffffffff32"},
		{plot.AddrKey("x", 0), "a/x/00000000"},
		{plot.AddrKey("x", 9), "a/x/00000009"},
		{plot.AddrKey("x", 10), "a/x/0000000a"},
		{plot.AddrKey("xy", 0x12abcdef), "a/xy/12abcdef"},
		{plot.AddrKey("abcdefgh", api.MaxAddr), "a/abcdefgh/ffffffff"},
	} {
		if c.got != c.want {
			t.Errorf("a key: %q, want %q", c.got, c.want)
		}
	}
}

// cutTo gives the prefix of Len n that has an address.
func cutTo(a, n int) api.Prefix { return api.Prefix{Addr: a >> (32 - n) << (32 - n), Len: n} }

func TestP1ReadWhatIsWritten(t *testing.T) {
	r := rand.New(rand.NewSource(1))
	for n := range 33 {
		for _, a := range []int{0, 1, api.MaxAddr, 0xabcdef01, r.Intn(1 << 32), r.Intn(1 << 32)} {
			p := cutTo(a, n)
			for _, name := range names {
				key := plot.PrefixKey(name, p)
				if want := fmt.Sprintf("p/%s/%08x%02d", name, p.Addr, p.Len); key != want {
					t.Fatalf("PrefixKey of %q, %v: %q, want %q", name, p, key, want)
				}
				if net, q, err := plot.ReadPrefix(key); net != name || q != p || err != nil {
					t.Fatalf("ReadPrefix of %q: %q %v %v", key, net, q, err)
				}
			}
			key := plot.AddrKey("xy", a)
			if want := fmt.Sprintf("a/xy/%08x", a); key != want {
				t.Fatalf("AddrKey of %d: %q, want %q", a, key, want)
			}
			if net, b, err := plot.ReadAddr(key); net != "xy" || b != a || err != nil {
				t.Fatalf("ReadAddr of %q: %q %d %v", key, net, b, err)
			}
		}
	}
	for _, name := range names {
		if net, err := plot.ReadNet(plot.NetKey(name)); net != name || err != nil {
			t.Fatalf("ReadNet of %q: %q %v", plot.NetKey(name), net, err)
		}
	}
}

var prefixKey = regexp.MustCompile(`\Ap/([a-z]{1,8})/([0-9a-f]{8})([0-9]{2})\z`)

// wantRead holds ReadPrefix to another way of reading.
func wantRead(t *testing.T, key string) {
	t.Helper()
	net, p, want := "", api.Prefix{}, api.ErrSyntax
	if m := prefixKey.FindStringSubmatch(key); m != nil {
		a, _ := strconv.ParseInt(m[2], 16, 64)
		n, _ := strconv.Atoi(m[3])
		if n <= 32 && int(a)%(1<<(32-n)) == 0 {
			net, p, want = m[1], api.Prefix{Addr: int(a), Len: n}, api.OK
		}
	}
	gotNet, got, err := plot.ReadPrefix(key)
	if gotNet != net || got != p || plain.Told(err) != want {
		t.Errorf("ReadPrefix of %q: %q %v %v, want %q %v %v", key, gotNet, got, err, net, p, want)
	}
}

func TestP1ReadPrefixOfNone(t *testing.T) {
	for _, key := range []string{
		"", "p", "p/", "p/x", "p/x/", "p//0000004026", "/x/0000004026", "n/x", "a/x/00000040", "a/x/0000004026", "n/x/0000004026",
		"P/x/0000004026", "p/X/0000004026", "p/abcdefghi/0000004026", "p/x/000000402", "p/x/00000040261", "p/x/0000004026/",
		"p/x//0000004026", "p/x/y/0000004026", " p/x/0000004026", "p/x/0000004026 ", "p/x/0000004026\n", "p/x/ABCDEF0032",
		"p/x/abcdeF0032", "p/x/0000004033", "p/x/0000004099", "p/x/0000004025", "p/x/0000000100", "p/x/ffffffff31", "p/x/8000000000",
		"p/x/+000000032", "p/x/-000000032", "p/x/00000000+1", "p/x/00000000-1", "p/x/00000000 1", "p/x/0000_00032", "p/x/0x00000032",
		"p/x/000000003a", "p/x/g000000032", "p/x/00000000\xb2\xb3", strings.Repeat("p/", 1000),
	} {
		net, p, err := plot.ReadPrefix(key)
		if net != "" || p != (api.Prefix{}) || plain.Told(err) != api.ErrSyntax {
			t.Errorf("ReadPrefix of %q: %q %v %v, want ErrSyntax", key, net, p, err)
		}
		wantRead(t, key)
	}
}

// TestP1ReadPrefixEachByte has each byte instead of, and ahead of, each one of keys, and each one left out.
func TestP1ReadPrefixEachByte(t *testing.T) {
	for _, key := range []string{"p/x/0000004026", "p/abcdefgh/ffffffff32", "p/xy/8000000001", "p/q/0000000000"} {
		for at := range len(key) {
			wantRead(t, key[:at])
			wantRead(t, key[:at]+key[at+1:])
			for b := range 256 {
				wantRead(t, key[:at]+string([]byte{byte(b)})+key[at+1:])
				wantRead(t, key[:at]+string([]byte{byte(b)})+key[at:])
			}
		}
	}
}

var (
	netKey  = regexp.MustCompile(`\An/([a-z]{1,8})\z`)
	addrKey = regexp.MustCompile(`\Aa/([a-z]{1,8})/([0-9a-f]{8})\z`)
)

// wantReadOthers holds ReadNet and ReadAddr to another way of reading.
func wantReadOthers(t *testing.T, key string) {
	t.Helper()
	net, a, want := "", 0, api.ErrSyntax
	if m := netKey.FindStringSubmatch(key); m != nil {
		net, want = m[1], api.OK
	}
	if got, err := plot.ReadNet(key); got != net || plain.Told(err) != want {
		t.Errorf("ReadNet of %q: %q %v, want %q %v", key, got, err, net, want)
	}
	net, want = "", api.ErrSyntax
	if m := addrKey.FindStringSubmatch(key); m != nil {
		n, _ := strconv.ParseInt(m[2], 16, 64)
		net, a, want = m[1], int(n), api.OK
	}
	if gotNet, got, err := plot.ReadAddr(key); gotNet != net || got != a || plain.Told(err) != want {
		t.Errorf("ReadAddr of %q: %q %d %v, want %q %d %v", key, gotNet, got, err, net, a, want)
	}
}

// TestP1ReadOthersEachByte has each byte instead of, and ahead of, each one of keys, and each one left out.
func TestP1ReadOthersEachByte(t *testing.T) {
	for _, key := range []string{"n/x", "n/abcdefgh", "n/n", "a/x/00000040", "a/abcdefgh/ffffffff", "a/a/abcdefab", "p/x/0000004026", ""} {
		wantReadOthers(t, key)
		for at := range len(key) {
			wantReadOthers(t, key[:at])
			wantReadOthers(t, key[:at]+key[at+1:])
			for b := range 256 {
				wantReadOthers(t, key[:at]+string([]byte{byte(b)})+key[at+1:])
				wantReadOthers(t, key[:at]+string([]byte{byte(b)})+key[at:])
			}
		}
	}
	for _, name := range wrongNames {
		wantReadOthers(t, "n/"+name)
		wantReadOthers(t, "a/"+name+"/00000000")
	}
}

// TestP1WrongKeys asks for keys of what may not be: nothing is said of them, but that they end.
func TestP1WrongKeys(t *testing.T) {
	for _, name := range append(wrongNames, names...) {
		plot.NetKey(name)
		for _, a := range wrongAddrs {
			plot.AddrKey(name, a)
		}
		for _, w := range wrongPrefixes {
			plot.PrefixKey(name, w.p)
		}
	}
}
