package code_test

import (
	"bytes"
	"slices"
	"strings"
	"testing"

	"burgage/api"
	"burgage/code"
	"burgage/plain"
)

type list = []api.Change

var (
	longKey   = strings.Repeat("k", api.MaxKey)
	longValue = strings.Repeat("v", api.MaxValue)
)

// rising gives n changes with keys of one byte each, that rise.
func rising(n int) list {
	var l list
	for i := range n {
		l = append(l, api.Change{Key: string([]byte{byte(i + 1)}), Value: "x"})
	}
	return l
}

// longest gives as many changes as may be, each as long as may be.
func longest() list {
	var l list
	for i := range api.MaxChanges {
		key := strings.Repeat("\xff", api.MaxKey-1) + string([]byte{byte(i)})
		l = append(l, api.Change{Key: key, Value: strings.Repeat("\xfe", api.MaxValue)})
	}
	return l
}

// right has lists beside the bytes that the chapter asks of them.
func right() []struct {
	l list
	b []byte
} {
	return []struct {
		l list
		b []byte
	}{
		{nil, []byte{0}},
		{list{{Key: "k", Value: "v"}, {Key: "l", Gone: true}}, []byte{2, 1, 'k', 1, 'v', 129, 'l'}},
		{list{{Key: "k"}}, []byte{1, 1, 'k', 0}},
		{list{{Key: "k", Gone: true}}, []byte{1, 129, 'k'}},
		{list{{Key: "\x00", Value: "\x00\x00"}}, []byte{1, 1, 0, 2, 0, 0}},
		{list{{Key: "\xff", Value: "\x80"}}, []byte{1, 1, 255, 1, 128}},
		{list{{Key: "ü", Gone: true}}, []byte{1, 130, 0xc3, 0xbc}},
		{list{{Key: "a"}, {Key: "a\x00"}}, []byte{2, 1, 'a', 0, 2, 'a', 0, 0}},
		{list{{Key: "a", Gone: true}, {Key: "aa", Gone: true}, {Key: "b", Gone: true}},
			[]byte{3, 129, 'a', 130, 'a', 'a', 129, 'b'}},
		{list{{Key: "\x7f", Value: "1"}, {Key: "\x80", Value: "2"}}, []byte{2, 1, 127, 1, '1', 1, 128, 1, '2'}},
		{list{{Key: longKey, Value: longValue}}, []byte("\x01\x18" + longKey + "\x0c" + longValue)},
		{list{{Key: longKey, Gone: true}}, []byte("\x01\x98" + longKey)},
	}
}

func wantEncode(t *testing.T, l list, want []byte, told api.Errno) {
	t.Helper()
	if err := code.Check(l); plain.Told(err) != told {
		t.Errorf("Check of %+v: tells %v, want %v", l, err, told)
	}
	got, err := code.Encode(l)
	if !bytes.Equal(got, want) || plain.Told(err) != told {
		t.Errorf("Encode of %+v: answers %v %v, want %v %v", l, got, err, want, told)
	}
	if err != nil && got != nil {
		t.Errorf("Encode of %+v: answers bytes that are not nil beside an error", l)
	}
}

func wantDecode(t *testing.T, b []byte, want list, told api.Errno) {
	t.Helper()
	got, err := code.Decode(b)
	if !slices.Equal(got, want) || plain.Told(err) != told {
		t.Errorf("Decode of %v: answers %+v %v, want %+v %v", b, got, err, want, told)
	}
	if err != nil && got != nil {
		t.Errorf("Decode of %v: answers a list that is not nil beside an error", b)
	}
}

func TestE1Right(t *testing.T) {
	for _, c := range right() {
		wantEncode(t, c.l, c.b, api.OK)
		wantDecode(t, c.b, c.l, api.OK)
	}
	wantEncode(t, list{}, []byte{0}, api.OK)
}

// TestE1Most has each number of changes, up to the most, and the most bytes of all.
func TestE1Most(t *testing.T) {
	for n := range api.MaxChanges + 1 {
		b := []byte{byte(n)}
		for i := range n {
			b = append(b, 1, byte(i+1), 1, 'x')
		}
		wantEncode(t, rising(n), b, api.OK)
		wantDecode(t, b, rising(n), api.OK)
	}
	b, err := code.Encode(longest())
	if len(b) != 1+api.MaxChanges*(1+api.MaxKey+1+api.MaxValue) || err != nil {
		t.Errorf("Encode of the longest: %d bytes, %v", len(b), err)
	}
	wantDecode(t, b, longest(), api.OK)
}

func TestE1TooMany(t *testing.T) {
	for _, l := range []list{
		rising(api.MaxChanges + 1),
		rising(255),
		make(list, api.MaxChanges+1),
		make(list, 256),
		make(list, 100000),
		slices.Repeat(list{{Key: "k", Value: "v", Gone: true}}, api.MaxChanges+1),
	} {
		wantEncode(t, l, nil, api.ErrFull)
	}
}

func TestE1WrongShape(t *testing.T) {
	for _, c := range []api.Change{
		{},
		{Value: "v"},
		{Gone: true},
		{Key: longKey + "k"},
		{Key: longKey + "k", Gone: true},
		{Key: strings.Repeat("k", 128)},
		{Key: strings.Repeat("k", 257)},
		{Key: strings.Repeat("k", 100000)},
		{Key: "k", Value: longValue + "v"},
		{Key: "k", Value: strings.Repeat("v", 257)},
		{Key: "k", Value: strings.Repeat("v", 100000)},
		{Key: "k", Value: "v", Gone: true},
		{Key: "k", Value: "\x00", Gone: true},
		{Key: "k", Value: longValue + "v", Gone: true},
	} {
		wantEncode(t, list{c}, nil, api.ErrShape)
		wantEncode(t, list{{Key: "\x00"}, c}, nil, api.ErrShape)
		wantEncode(t, list{c, {Key: "\xff"}}, nil, api.ErrShape)
	}
	l := rising(api.MaxChanges)
	l[api.MaxChanges-1].Gone = true
	wantEncode(t, l, nil, api.ErrShape)
}

func TestE1KeysMustRise(t *testing.T) {
	for _, pair := range [][2]string{
		{"b", "a"}, {"a", "a"}, {"ab", "a"}, {"a\x00", "a"}, {"b", "ab"}, {"\x80", "\x7f"}, {"\xff", "a"},
		{"a", "B"}, {"9", "10"}, {longKey, longKey}, {longKey, longKey[1:]},
	} {
		for gone := range 4 {
			l := list{{Key: pair[0], Gone: gone&1 != 0}, {Key: pair[1], Gone: gone&2 != 0}}
			wantEncode(t, l, nil, api.ErrShape)
		}
		wantEncode(t, list{{Key: pair[0], Value: "1"}, {Key: pair[1], Value: "2"}}, nil, api.ErrShape)
	}
	l := rising(api.MaxChanges)
	l[18], l[19] = l[19], l[18]
	wantEncode(t, l, nil, api.ErrShape)
	wantEncode(t, list{{Key: "a"}, {Key: "c"}, {Key: "b"}}, nil, api.ErrShape)
}

func TestE1WrongBytes(t *testing.T) {
	for _, b := range [][]byte{
		nil,
		{},
		{1},
		{255},
		{0, 0},
		{0, 1, 'k', 0},
		{1, 0},
		{1, 0, 0},
		{1, 0, 1, 'v'},
		{1, 128},
		{1, 128, 0},
		{1, 1},
		{1, 1, 'k'},
		{1, 1, 'k', 1},
		{1, 1, 'k', 0, 0},
		{1, 1, 'k', 1, 'v', 'w'},
		{1, 129},
		{1, 129, 'k', 0},
		{1, 129, 'k', 1, 'v'},
		{1, 130, 'k'},
		{1, 255, 'k'},
		{2, 1, 'k', 0},
		{2, 129, 'k'},
		{2, 1, 'b', 0, 1, 'a', 0},
		{2, 1, 'a', 0, 1, 'a', 0},
		{2, 129, 'a', 1, 'a', 0},
		{2, 1, 'b', 0, 129, 'a'},
		{2, 2, 'a', 0, 0, 1, 'a', 0},
		[]byte("\x01\x19" + longKey + "k\x00"),
		[]byte("\x01\x99" + longKey + "k"),
		[]byte("\x01\x7f" + strings.Repeat("k", 127) + "\x00"),
		[]byte("\x01\xff" + strings.Repeat("k", 127)),
		[]byte("\x01\x01k\x0d" + longValue + "v"),
		[]byte("\x01\x01k\xff" + strings.Repeat("v", 255)),
		make([]byte, 100000),
		bytes.Repeat([]byte{255}, 100000),
	} {
		wantDecode(t, b, nil, api.ErrSyntax)
	}
}

// TestE1BytesOfTooMany has bytes that are wrong in how many changes they have, and in nothing else.
func TestE1BytesOfTooMany(t *testing.T) {
	for _, n := range []int{api.MaxChanges + 1, 128, 255} {
		b := []byte{byte(n)}
		for i := range n {
			b = append(b, 129, byte(i+1))
		}
		wantDecode(t, b, nil, api.ErrSyntax)
	}
}

// TestE1CutAndLengthened has bytes that are right but for the last ones.
func TestE1CutAndLengthened(t *testing.T) {
	l := append(rising(3), api.Change{Key: "y", Gone: true}, api.Change{Key: "z"})
	for _, l := range []list{l, longest()} {
		b, err := code.Encode(l)
		if err != nil {
			t.Fatal(err)
		}
		for n := range b {
			wantDecode(t, b[:n], nil, api.ErrSyntax)
			wantDecode(t, slices.Clip(slices.Clone(b[:n])), nil, api.ErrSyntax)
		}
		for _, more := range []byte{0, 1, 128, 255} {
			wantDecode(t, append(slices.Clone(b), more), nil, api.ErrSyntax)
		}
	}
}

// TestE1NothingBehindTheLength has memory behind the length of what is handed in, which is neither read nor written.
func TestE1NothingBehindTheLength(t *testing.T) {
	l := list{{Key: "a", Value: "x"}, {Key: "b", Value: "y"}, {Key: "a", Value: "z", Gone: true}}
	kept := slices.Clone(l)
	wantEncode(t, l[:1], []byte{1, 1, 'a', 1, 'x'}, api.OK)
	wantEncode(t, l[:0], []byte{0}, api.OK)
	if !slices.Equal(l, kept) {
		t.Errorf("Encode wrote into what it was handed: %+v", l)
	}
	b := []byte{0, 1, 'k', 1, 'v'}
	wantDecode(t, b[:1], nil, api.OK)
	wantDecode(t, b[1:3], nil, api.ErrSyntax)
	if !bytes.Equal(b, []byte{0, 1, 'k', 1, 'v'}) {
		t.Errorf("Decode wrote into what it was handed: %v", b)
	}
}

// TestE1FreshMemory spoils what was handed in, and what came out, and asks again.
func TestE1FreshMemory(t *testing.T) {
	l := list{{Key: "k", Value: "v"}, {Key: "l", Gone: true}}
	want := []byte{2, 1, 'k', 1, 'v', 129, 'l'}
	b, _ := code.Encode(l)
	again, _ := code.Encode(l)
	got, _ := code.Decode(b)
	other, _ := code.Decode(b)
	clear(b)
	clear(l)
	if !bytes.Equal(again, want) {
		t.Errorf("two answers of Encode share memory: %v", again)
	}
	got[0] = api.Change{}
	if !slices.Equal(other, list{{Key: "k", Value: "v"}, {Key: "l", Gone: true}}) {
		t.Errorf("what Decode answers shares memory with its bytes, or with another answer: %+v", other)
	}
	none, _ := code.Encode(nil)
	none[0] = 7
	wantEncode(t, nil, []byte{0}, api.OK)
}
