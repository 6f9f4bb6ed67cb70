package addr_test

import (
	"math"
	"math/rand"
	"net/netip"
	"strconv"
	"strings"
	"testing"

	"burgage/addr"
	"burgage/api"
	"burgage/plain"
)

// wrongAddresses are numbers beside what an address may be.
var wrongAddresses = []int{-1, api.MaxAddr + 1, -api.MaxAddr, 1 << 33, math.MinInt, math.MaxInt}

// wrongPrefixes are prefixes that Check refuses, each with what it says of them.
var wrongPrefixes = []struct {
	p    api.Prefix
	want api.Errno
}{
	{api.Prefix{Addr: 0, Len: -1}, api.ErrRange},
	{api.Prefix{Addr: 0, Len: 33}, api.ErrRange},
	{api.Prefix{Addr: 0, Len: math.MinInt}, api.ErrRange},
	{api.Prefix{Addr: 0, Len: math.MaxInt}, api.ErrRange},
	{api.Prefix{Addr: -1, Len: 32}, api.ErrRange},
	{api.Prefix{Addr: api.MaxAddr + 1, Len: 32}, api.ErrRange},
	{api.Prefix{Addr: api.MaxAddr + 1, Len: 0}, api.ErrRange},
	{api.Prefix{Addr: math.MinInt, Len: 0}, api.ErrRange},
	{api.Prefix{Addr: math.MaxInt, Len: 16}, api.ErrRange},
	{api.Prefix{Addr: 1, Len: -1}, api.ErrRange},
	{api.Prefix{Addr: 1, Len: 0}, api.ErrShape},
	{api.Prefix{Addr: 1 << 31, Len: 0}, api.ErrShape},
	{api.Prefix{Addr: 1, Len: 31}, api.ErrShape},
	{api.Prefix{Addr: api.MaxAddr, Len: 31}, api.ErrShape},
	{api.Prefix{Addr: 0x0a000001, Len: 8}, api.ErrShape},
}

// someAddresses are the edges, each single bit, and some in between.
func someAddresses() []int {
	l := []int{0, 1, api.MaxAddr, api.MaxAddr - 1, 0x0a000001, 0x0a0000ff, 0xc0a80180, 0x7fffffff, 0x55555555}
	for i := range 32 {
		l = append(l, 1<<i)
	}
	return l
}

// allPrefixes of the addresses of someAddresses: one of each Len.
func allPrefixes() []api.Prefix {
	seen := map[api.Prefix]int{}
	var l []api.Prefix
	for _, a := range someAddresses() {
		for n := 0; n <= 32; n++ {
			p := api.Prefix{Addr: a / size(n) * size(n), Len: n}
			if seen[p] == 0 {
				l = append(l, p)
			}
			seen[p]++
		}
	}
	return l
}

// size is how many addresses a prefix of Len n has.
func size(n int) int {
	s := 1
	for ; n < 32; n++ {
		s *= 2
	}
	return s
}

func wantError(t *testing.T, what string, err error, want api.Errno) {
	t.Helper()
	if got := plain.Told(err); got != want {
		t.Errorf("%s: told %v, want %v", what, got, want)
	}
}

func name(p api.Prefix) string {
	return "{" + strconv.Itoa(p.Addr) + " " + strconv.Itoa(p.Len) + "}"
}

func TestA1ParseRight(t *testing.T) {
	for _, c := range []struct {
		text string
		want int
	}{
		{"0.0.0.0", 0},
		{"0.0.0.1", 1},
		{"10.0.0.1", 167772161},
		{"1.2.3.4", 0x01020304},
		{"128.0.0.0", 1 << 31},
		{"0.0.0.255", 255},
		{"0.0.1.0", 256},
		{"192.168.100.200", 0xc0a864c8},
		{"255.255.255.255", api.MaxAddr},
	} {
		got, err := addr.Parse(c.text)
		wantError(t, "Parse "+c.text, err, api.OK)
		if got != c.want {
			t.Errorf("Parse %s: %d, want %d", c.text, got, c.want)
		}
		if text, err := addr.Print(c.want); text != c.text || err != nil {
			t.Errorf("Print %d: %q %v, want %q", c.want, text, err, c.text)
		}
	}
}

func TestA1ParseWrong(t *testing.T) {
	for _, text := range []string{
		"", ".", "...", "0", "1.2", "1.2.3", "1.2.3.", ".1.2.3", "1..2.3", "1.2.3.4.", ".1.2.3.4", "1.2.3.4.5",
		"00.0.0.0", "10.0.0.01", "0.0.0.00", "01.2.3.4", "0.0.0.001",
		"256.0.0.0", "0.0.0.256", "0.0.0.300", "0.0.0.1000", "0.0.0.4294967296", "0.0.0.18446744073709551617",
		"-1.0.0.0", "+1.0.0.0", "0.0.0.-0", " 1.2.3.4", "1.2.3.4 ", "1. 2.3.4", "1.2.3.4\n", "1.2.3.4\x00",
		"a.b.c.d", "0x1.0.0.0", "1.2.3.4/32", "1,2,3,4", "1:2:3:4", "1_0.0.0.0", "::1", "::ffff:1.2.3.4",
		"1.2.3.\xb2", "1.2.3.\u0664", "\xff\xfe", "1.2.3./", "1.2.3.:", "167772161",
		strings.Repeat("1", 100000), strings.Repeat("1.", 100000), strings.Repeat(".", 100000),
	} {
		got, err := addr.Parse(text)
		wantError(t, "Parse "+strconv.Quote(text[:min(len(text), 40)]), err, api.ErrSyntax)
		if got != 0 {
			t.Errorf("Parse %.40q: %d beside an error", text, got)
		}
	}
}

func TestA1EachByteInEachPlace(t *testing.T) {
	for place := range 4 {
		for value := range 256 {
			words := []string{"7", "7", "7", "7"}
			words[place] = strconv.Itoa(value)
			text := strings.Join(words, ".")
			want := 0x07070707 - 7<<(8*(3-place)) + value<<(8*(3-place))
			if got, err := addr.Parse(text); got != want || err != nil {
				t.Errorf("Parse %s: %d %v, want %d", text, got, err, want)
			}
			if got, err := addr.Print(want); got != text || err != nil {
				t.Errorf("Print %d: %q %v, want %q", want, got, err, text)
			}
		}
	}
}

func TestA1PrintWrong(t *testing.T) {
	for _, a := range wrongAddresses {
		got, err := addr.Print(a)
		wantError(t, "Print "+strconv.Itoa(a), err, api.ErrRange)
		if got != "" {
			t.Errorf("Print %d: %q beside an error", a, got)
		}
	}
}

// spoil changes a text in some places, so that it stays near what may be.
func spoil(r *rand.Rand, text string) string {
	const letters = "0123456789./ -+"
	b := []byte(text)
	for range r.Intn(3) {
		at := r.Intn(len(b) + 1)
		c := letters[r.Intn(len(letters))]
		switch {
		case r.Intn(2) == 0 || at == len(b):
			b = append(b[:at], append([]byte{c}, b[at:]...)...)
		case r.Intn(2) == 0:
			b = append(b[:at], b[at+1:]...)
		default:
			b[at] = c
		}
	}
	return string(b)
}

// number of an address of the library's.
func number(a netip.Addr) int {
	n := 0
	for _, b := range a.As4() {
		n = 256*n + int(b)
	}
	return n
}

func TestA1ParseAsTheLibraryDoes(t *testing.T) {
	r := rand.New(rand.NewSource(1))
	for range 50000 {
		start, _ := addr.Print(int(r.Uint32() >> r.Intn(32)))
		text := spoil(r, start)
		got, err := addr.Parse(text)
		if a, other := netip.ParseAddr(text); other == nil && a.Is4() {
			if got != number(a) || err != nil {
				t.Fatalf("Parse %q: %d %v, want %d", text, got, err, number(a))
			}
		} else if got != 0 || plain.Told(err) != api.ErrSyntax {
			t.Fatalf("Parse %q: %d %v, want ErrSyntax", text, got, err)
		}
	}
}

func TestA2CheckWrong(t *testing.T) {
	for _, c := range wrongPrefixes {
		wantError(t, "Check "+name(c.p), addr.Check(c.p), c.want)
	}
}

func TestA2CheckEachBitAtEachLen(t *testing.T) {
	for n := 0; n <= 32; n++ {
		wantError(t, "Check of zero", addr.Check(api.Prefix{Addr: 0, Len: n}), api.OK)
		for bit := range 32 {
			p := api.Prefix{Addr: 1 << (31 - bit), Len: n}
			want := api.OK
			if bit >= n {
				want = api.ErrShape
			}
			wantError(t, "Check "+name(p), addr.Check(p), want)
		}
	}
}

func TestA2ParsePrefixRight(t *testing.T) {
	for _, c := range []struct {
		text string
		want api.Prefix
	}{
		{"0.0.0.0/0", api.Prefix{Addr: 0, Len: 0}},
		{"0.0.0.0/32", api.Prefix{Addr: 0, Len: 32}},
		{"10.0.0.0/8", api.Prefix{Addr: 167772160, Len: 8}},
		{"10.0.0.0/30", api.Prefix{Addr: 167772160, Len: 30}},
		{"128.0.0.0/1", api.Prefix{Addr: 1 << 31, Len: 1}},
		{"255.255.255.255/32", api.Prefix{Addr: api.MaxAddr, Len: 32}},
	} {
		got, err := addr.ParsePrefix(c.text)
		wantError(t, "ParsePrefix "+c.text, err, api.OK)
		if got != c.want {
			t.Errorf("ParsePrefix %s: %v, want %v", c.text, got, c.want)
		}
	}
}

func TestA2ParsePrefixWrong(t *testing.T) {
	for _, c := range []struct {
		text string
		want api.Errno
	}{
		{"", api.ErrSyntax},
		{"/", api.ErrSyntax},
		{"/8", api.ErrSyntax},
		{"10.0.0.0", api.ErrSyntax},
		{"10.0.0.0/", api.ErrSyntax},
		{"10.0.0.0/8/", api.ErrSyntax},
		{"10.0.0.0/8/8", api.ErrSyntax},
		{"10.0.0.0//8", api.ErrSyntax},
		{"10.0.0.0/08", api.ErrSyntax},
		{"10.0.0.0/00", api.ErrSyntax},
		{"10.0.0.0/-8", api.ErrSyntax},
		{"10.0.0.0/+8", api.ErrSyntax},
		{"10.0.0.0/ 8", api.ErrSyntax},
		{"10.0.0.0/8 ", api.ErrSyntax},
		{"10.0.0.0 /8", api.ErrSyntax},
		{"10.0.0.0/a", api.ErrSyntax},
		{"10.0.0.0/33", api.ErrSyntax},
		{"10.0.0.0/100", api.ErrSyntax},
		{"10.0.0.0/18446744073709551624", api.ErrSyntax},
		{"10.0.0.0/" + strings.Repeat("9", 100000), api.ErrSyntax},
		{"10.0.0/8", api.ErrSyntax},
		{"10.0.0.256/8", api.ErrSyntax},
		{"010.0.0.0/8", api.ErrSyntax},
		{"10.0.0.1/33", api.ErrSyntax},
		{"10.0.0.1/08", api.ErrSyntax},
		{"10.0.0.1/8", api.ErrShape},
		{"0.0.0.1/31", api.ErrShape},
		{"0.0.0.1/0", api.ErrShape},
		{"128.0.0.0/0", api.ErrShape},
	} {
		got, err := addr.ParsePrefix(c.text)
		wantError(t, "ParsePrefix "+strconv.Quote(c.text[:min(len(c.text), 40)]), err, c.want)
		if got != (api.Prefix{}) {
			t.Errorf("ParsePrefix %.40q: %v beside an error", c.text, got)
		}
	}
}

func TestA2ParsePrefixAsTheLibraryDoes(t *testing.T) {
	r := rand.New(rand.NewSource(2))
	for range 50000 {
		n := r.Intn(33)
		start, _ := addr.PrintPrefix(api.Prefix{Addr: int(r.Uint32()) / size(n) * size(n), Len: n})
		text := spoil(r, start)
		want, told := api.Prefix{}, api.ErrSyntax
		if p, err := netip.ParsePrefix(text); err == nil && p.Addr().Is4() {
			if told = api.ErrShape; p == p.Masked() {
				want, told = api.Prefix{Addr: number(p.Addr()), Len: p.Bits()}, api.OK
			}
		}
		if got, err := addr.ParsePrefix(text); got != want || plain.Told(err) != told {
			t.Fatalf("ParsePrefix %q: %v %v, want %v %v", text, got, err, want, told)
		}
	}
}

func TestA2PrintPrefix(t *testing.T) {
	if got, err := addr.PrintPrefix(api.Prefix{Addr: 167772160, Len: 30}); got != "10.0.0.0/30" || err != nil {
		t.Errorf("PrintPrefix: %q %v", got, err)
	}
	for _, p := range allPrefixes() {
		text, err := addr.PrintPrefix(p)
		wantError(t, "PrintPrefix "+name(p), err, api.OK)
		a, _ := addr.Print(p.Addr)
		if want := a + "/" + strconv.Itoa(p.Len); text != want {
			t.Errorf("PrintPrefix %v: %q, want %q", p, text, want)
		}
		if back, err := addr.ParsePrefix(text); back != p || err != nil {
			t.Errorf("ParsePrefix %q: %v %v, want %v", text, back, err, p)
		}
	}
	for _, c := range wrongPrefixes {
		text, err := addr.PrintPrefix(c.p)
		wantError(t, "PrintPrefix "+name(c.p), err, c.want)
		if text != "" {
			t.Errorf("PrintPrefix %v: %q beside an error", c.p, text)
		}
	}
}

func TestA2Ends(t *testing.T) {
	for _, p := range allPrefixes() {
		first, last, err := addr.Ends(p)
		wantError(t, "Ends "+name(p), err, api.OK)
		if first != p.Addr || last != p.Addr+size(p.Len)-1 {
			t.Errorf("Ends %v: %d %d", p, first, last)
		}
	}
	if first, last, err := addr.Ends(api.Prefix{}); first != 0 || last != api.MaxAddr || err != nil {
		t.Errorf("Ends of all: %d %d %v", first, last, err)
	}
	for _, c := range wrongPrefixes {
		first, last, err := addr.Ends(c.p)
		wantError(t, "Ends "+name(c.p), err, c.want)
		if first != 0 || last != 0 {
			t.Errorf("Ends %v: %d %d beside an error", c.p, first, last)
		}
	}
}

func TestA2Within(t *testing.T) {
	l := allPrefixes()
	for _, p := range l {
		for _, q := range l {
			want := q.Addr <= p.Addr && p.Addr+size(p.Len) <= q.Addr+size(q.Len)
			if got, err := addr.Within(p, q); got != want || err != nil {
				t.Fatalf("Within %v %v: %v %v, want %v", p, q, got, err, want)
			}
		}
	}
}

func TestA2WithinWrong(t *testing.T) {
	right := api.Prefix{}
	for _, c := range wrongPrefixes {
		for _, pair := range [][2]api.Prefix{{c.p, right}, {right, c.p}} {
			got, err := addr.Within(pair[0], pair[1])
			wantError(t, "Within "+name(pair[0])+" "+name(pair[1]), err, c.want)
			if got {
				t.Errorf("Within %v: true beside an error", pair)
			}
		}
		for _, d := range wrongPrefixes {
			_, err := addr.Within(c.p, d.p)
			wantError(t, "Within "+name(c.p)+" "+name(d.p), err, c.want)
		}
	}
}

func TestA2HalvesAndUp(t *testing.T) {
	for _, p := range allPrefixes() {
		low, high, err := addr.Halves(p)
		if p.Len == 32 {
			wantError(t, "Halves "+name(p), err, api.ErrNone)
			if low != (api.Prefix{}) || high != (api.Prefix{}) {
				t.Errorf("Halves %v: %v %v beside an error", p, low, high)
			}
			continue
		}
		wantError(t, "Halves "+name(p), err, api.OK)
		n := p.Len + 1
		if low != (api.Prefix{Addr: p.Addr, Len: n}) || high != (api.Prefix{Addr: p.Addr + size(n), Len: n}) {
			t.Errorf("Halves %v: %v %v", p, low, high)
		}
		for _, half := range []api.Prefix{low, high} {
			if up, err := addr.Up(half); up != p || err != nil {
				t.Errorf("Up %v: %v %v, want %v", half, up, err, p)
			}
		}
	}
}

func TestA2UpOfAll(t *testing.T) {
	up, err := addr.Up(api.Prefix{})
	wantError(t, "Up of all", err, api.ErrNone)
	if up != (api.Prefix{}) {
		t.Errorf("Up of all: %v beside an error", up)
	}
}

func TestA2HalvesAndUpWrong(t *testing.T) {
	for _, c := range wrongPrefixes {
		low, high, err := addr.Halves(c.p)
		wantError(t, "Halves "+name(c.p), err, c.want)
		up, err := addr.Up(c.p)
		wantError(t, "Up "+name(c.p), err, c.want)
		if zero := (api.Prefix{}); low != zero || high != zero || up != zero {
			t.Errorf("%v: %v %v %v beside an error", c.p, low, high, up)
		}
	}
}

func TestA2Both(t *testing.T) {
	if got, err := addr.Both(167772161, 167772162); got != (api.Prefix{Addr: 167772160, Len: 30}) || err != nil {
		t.Errorf("Both: %v %v", got, err)
	}
	for _, a := range someAddresses() {
		for _, b := range someAddresses() {
			n := 32
			for a/size(n) != b/size(n) {
				n--
			}
			want := api.Prefix{Addr: a / size(n) * size(n), Len: n}
			if got, err := addr.Both(a, b); got != want || err != nil {
				t.Fatalf("Both %d %d: %v %v, want %v", a, b, got, err, want)
			}
		}
	}
}

func TestA2BothWrong(t *testing.T) {
	for _, a := range wrongAddresses {
		for _, pair := range [][2]int{{a, 0}, {0, a}, {a, a}, {api.MaxAddr, a}} {
			got, err := addr.Both(pair[0], pair[1])
			wantError(t, "Both "+strconv.Itoa(pair[0])+" "+strconv.Itoa(pair[1]), err, api.ErrRange)
			if got != (api.Prefix{}) {
				t.Errorf("Both %v: %v beside an error", pair, got)
			}
		}
	}
}
