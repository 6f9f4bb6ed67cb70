package log_test

import (
	"bytes"
	"math"
	"slices"
	"strings"
	"testing"

	"burgage/api"
	"burgage/log"
	"burgage/plain"
)

type list = []api.Change

var (
	kv = list{{Key: "k", Value: "v"}}
	lw = list{{Key: "l", Value: "w"}}
)

// Bytes of the lists above, and of the empty one, as the chapter asks them.
const (
	kvBytes   = "\x00\x05\x01\x01k\x01v"
	lwBytes   = "\x00\x05\x01\x01l\x01w"
	noneBytes = "\x00\x01\x00"
)

// longest gives as many changes as may be, each as long as may be: 763 bytes of a log.
func longest() list {
	var l list
	for i := range api.MaxChanges {
		key := strings.Repeat("\xff", api.MaxKey-1) + string([]byte{byte(i)})
		l = append(l, api.Change{Key: key, Value: strings.Repeat("\xfe", api.MaxValue)})
	}
	return l
}

// tooMany gives one change more than may be.
func tooMany() list {
	var l list
	for i := range api.MaxChanges + 1 {
		l = append(l, api.Change{Key: string([]byte{byte(i + 1)})})
	}
	return l
}

func fresh(t *testing.T, room int) *log.Log {
	t.Helper()
	g, err := log.New(room)
	if g == nil || err != nil {
		t.Fatalf("New of %d: %v %v", room, g, err)
	}
	return g
}

func wantAppend(t *testing.T, g *log.Log, l list, told api.Errno) {
	t.Helper()
	if err := g.Append(l); plain.Told(err) != told {
		t.Errorf("Append of %+v: tells %v, want %v", l, err, told)
	}
}

func wantSync(t *testing.T, g *log.Log, told api.Errno) {
	t.Helper()
	if err := g.Sync(); plain.Told(err) != told {
		t.Errorf("Sync: tells %v, want %v", err, told)
	}
}

// wantKept asks for all that a log tells of what it keeps.
func wantKept(t *testing.T, g *log.Log, b string, safe int, lists ...list) {
	t.Helper()
	if got := g.Bytes(); string(got) != b {
		t.Errorf("Bytes: %q, want %q", got, b)
	}
	if got := g.Safe(); got != safe {
		t.Errorf("Safe: %d, want %d", got, safe)
	}
	if got := g.Read(); !slices.EqualFunc(got, lists, slices.Equal[list]) {
		t.Errorf("Read: %+v, want %+v", got, lists)
	}
}

func TestL1Room(t *testing.T) {
	for _, room := range []int{-1, -api.MaxRoom, math.MinInt, api.MaxRoom + 1, math.MaxInt} {
		g, err := log.New(room)
		if g != nil || plain.Told(err) != api.ErrRange {
			t.Errorf("New of %d: answers %v %v, want nil %v", room, g, err, api.ErrRange)
		}
	}
	for _, room := range []int{0, 1, 2, api.MaxRoom - 1, api.MaxRoom} {
		wantKept(t, fresh(t, room), "", 0)
	}
}

func TestL1Append(t *testing.T) {
	g := fresh(t, 100)
	wantAppend(t, g, kv, api.OK)
	wantKept(t, g, kvBytes, 0, kv)
	wantAppend(t, g, nil, api.OK)
	wantAppend(t, g, list{}, api.OK)
	wantKept(t, g, kvBytes+noneBytes+noneBytes, 0, kv, nil, nil)
	gone := list{{Key: "k", Gone: true}, {Key: "l"}}
	wantAppend(t, g, gone, api.OK)
	wantAppend(t, g, kv, api.OK)
	goneBytes := "\x00\x06\x02\x81k\x01l\x00"
	wantKept(t, g, kvBytes+noneBytes+noneBytes+goneBytes+kvBytes, 0, kv, nil, nil, gone, kv)
}

// TestL1LongList has lists from 255 bytes on, so that the high byte of how long they are counts.
func TestL1LongList(t *testing.T) {
	wantLong(t, longest(), 761)
	for n := range api.MaxValue + 1 {
		l := longest()[:7]
		l[6].Value = l[6].Value[:n]
		wantLong(t, l, 255+n)
	}
}

func wantLong(t *testing.T, l list, size int) {
	t.Helper()
	g := fresh(t, size+9)
	wantAppend(t, g, l, api.OK)
	wantAppend(t, g, kv, api.OK)
	b := g.Bytes()
	if len(b) != 2+size+7 || int(b[0]) != size/256 || int(b[1]) != size%256 {
		t.Fatalf("Bytes of a list of %d: %d, that begin with %v", size, len(b), b[:2])
	}
	wantKept(t, g, string(b), 0, l, kv)
}

func TestL1Full(t *testing.T) {
	for room := range 7 {
		g := fresh(t, room)
		wantAppend(t, g, kv, api.ErrFull)
		wantKept(t, g, "", 0)
	}
	g := fresh(t, 7)
	wantAppend(t, g, kv, api.OK)
	wantAppend(t, g, nil, api.ErrFull)
	wantKept(t, g, kvBytes, 0, kv)
	g = fresh(t, 2)
	wantAppend(t, g, nil, api.ErrFull)
	g = fresh(t, 16)
	wantAppend(t, g, kv, api.OK)
	wantAppend(t, g, lw, api.OK)
	wantAppend(t, g, nil, api.ErrFull)
	wantSync(t, g, api.OK)
	wantKept(t, g, kvBytes+lwBytes, 14, kv, lw)
	g = fresh(t, 17)
	wantAppend(t, g, kv, api.OK)
	wantAppend(t, g, lw, api.OK)
	wantAppend(t, g, kv, api.ErrFull)
	wantAppend(t, g, nil, api.OK)
	wantKept(t, g, kvBytes+lwBytes+noneBytes, 0, kv, lw, nil)
}

// TestL1FullestLog fills the greatest room to the last byte.
func TestL1FullestLog(t *testing.T) {
	g := fresh(t, api.MaxRoom)
	var lists []list
	for range 131 {
		wantAppend(t, g, longest(), api.OK)
		lists = append(lists, longest())
	}
	wantAppend(t, g, longest(), api.ErrFull)
	// 47 bytes are left: 14 of the empty list leave 5, and there is one of 5.
	for range 14 {
		wantAppend(t, g, nil, api.OK)
		lists = append(lists, nil)
	}
	wantAppend(t, g, list{{Key: "abc", Gone: true}}, api.ErrFull)
	wantAppend(t, g, list{{Key: "a", Gone: true}}, api.OK)
	wantAppend(t, g, nil, api.ErrFull)
	wantSync(t, g, api.OK)
	lists = append(lists, list{{Key: "a", Gone: true}})
	b := g.Bytes()
	if len(b) != api.MaxRoom {
		t.Errorf("Bytes: %d, want %d", len(b), api.MaxRoom)
	}
	g.Crash(0)
	wantKept(t, g, string(b), api.MaxRoom, lists...)
}

// wrong has lists that code's Check refuses, beside what it tells.
func wrong() []struct {
	l    list
	told api.Errno
} {
	return []struct {
		l    list
		told api.Errno
	}{
		{tooMany(), api.ErrFull},
		{make(list, api.MaxChanges+1), api.ErrFull},
		{list{{}}, api.ErrShape},
		{list{{Key: strings.Repeat("k", api.MaxKey+1)}}, api.ErrShape},
		{list{{Key: "k", Value: strings.Repeat("v", api.MaxValue+1)}}, api.ErrShape},
		{list{{Key: "k", Value: "v", Gone: true}}, api.ErrShape},
		{list{{Key: "k"}, {Key: "k"}}, api.ErrShape},
		{list{{Key: "l"}, {Key: "k"}}, api.ErrShape},
	}
}

func TestL1WrongLists(t *testing.T) {
	for _, c := range wrong() {
		g := fresh(t, 100)
		wantAppend(t, g, c.l, c.told)
		wantKept(t, g, "", 0)
	}
}

// TestL1OrderOfErrors has Check ahead of room, and room ahead of the power.
func TestL1OrderOfErrors(t *testing.T) {
	for _, c := range wrong() {
		wantAppend(t, fresh(t, 0), c.l, c.told)
	}
	g := fresh(t, 10)
	g.Fail(0)
	wantSync(t, g, api.ErrDown)
	for _, c := range wrong() {
		wantAppend(t, g, c.l, c.told)
	}
	wantAppend(t, g, longest(), api.ErrFull)
	wantAppend(t, g, kv, api.ErrDown)
	wantSync(t, g, api.ErrDown)
	wantKept(t, g, "", 0)
}

func TestL1Sync(t *testing.T) {
	g := fresh(t, 100)
	wantSync(t, g, api.OK)
	wantKept(t, g, "", 0)
	wantAppend(t, g, kv, api.OK)
	wantSync(t, g, api.OK)
	wantKept(t, g, kvBytes, 7, kv)
	wantAppend(t, g, lw, api.OK)
	wantAppend(t, g, nil, api.OK)
	wantKept(t, g, kvBytes+lwBytes+noneBytes, 7, kv, lw, nil)
	wantSync(t, g, api.OK)
	wantSync(t, g, api.OK)
	wantKept(t, g, kvBytes+lwBytes+noneBytes, 17, kv, lw, nil)
}

func TestL1LogsApart(t *testing.T) {
	g, h := fresh(t, 100), fresh(t, 100)
	wantAppend(t, g, kv, api.OK)
	g.Fail(0)
	wantSync(t, g, api.ErrDown)
	wantAppend(t, h, lw, api.OK)
	wantSync(t, h, api.OK)
	wantKept(t, g, kvBytes, 0, kv)
	wantKept(t, h, lwBytes, 7, lw)
}

// TestL1FreshMemory writes into all that was handed in and that came out.
func TestL1FreshMemory(t *testing.T) {
	g := fresh(t, 100)
	l := list{{Key: "k", Value: "v"}, {Key: "behind", Value: "it"}}
	wantAppend(t, g, l[:1], api.OK)
	if l[0] != kv[0] || l[1] != (api.Change{Key: "behind", Value: "it"}) {
		t.Errorf("Append has written into its list: %+v", l)
	}
	l[0] = api.Change{Key: "x"}
	wantAppend(t, g, lw, api.OK)
	b, lists := g.Bytes(), g.Read()
	clear(b[:cap(b)])
	b = append(b[:0], strings.Repeat("\xff", 14)...)
	again := append(lists[0], api.Change{Key: "y"})
	again[0], lists[1][0], lists[1] = api.Change{}, api.Change{}, nil
	wantKept(t, g, kvBytes+lwBytes, 0, kv, lw)
	g.Crash(7)
	was := g.Bytes()
	wantAppend(t, g, nil, api.OK)
	if !bytes.Equal(was, []byte(kvBytes)) {
		t.Errorf("Bytes that came out have changed: %q", was)
	}
	wantKept(t, g, kvBytes+noneBytes, 7, kv, nil)
}
