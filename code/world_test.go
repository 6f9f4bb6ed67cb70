package code_test

import (
	"bytes"
	"math/rand"
	"slices"
	"strings"
	"testing"

	"burgage/api"
	"burgage/code"
	"burgage/plain"
)

// letters of a small world of bytes: lengths, marks, and what stands in keys.
const letters = "\x00\x01\x02\x03\x80\x81\x82"

// worldBytes is how many bytes there are at most in the small world.
const worldBytes = 6

// words gives all texts of n letters, rising.
func words(n int) []string {
	if n == 0 {
		return []string{""}
	}
	var l []string
	for _, w := range words(n - 1) {
		for i := range len(letters) {
			l = append(l, w+letters[i:i+1])
		}
	}
	return l
}

// tails tells of each way in which n changes, with keys behind ahead, can be written in at most room bytes.
func tails(n, room int, ahead string, tell func(l list, b string)) {
	if n == 0 {
		tell(nil, "")
		return
	}
	one := func(c api.Change, b string) {
		tails(n-1, room-len(b), c.Key, func(l list, tail string) {
			tell(append(list{c}, l...), b+tail)
		})
	}
	for size := 1; size < room; size++ {
		for _, key := range words(size) {
			if key <= ahead {
				continue
			}
			one(api.Change{Key: key, Gone: true}, string([]byte{byte(128 + size)})+key)
			for long := 0; size+long+2 <= room; long++ {
				for _, value := range words(long) {
					b := string([]byte{byte(size)}) + key + string([]byte{byte(long)}) + value
					one(api.Change{Key: key, Value: value}, b)
				}
			}
		}
	}
}

// world has all lists that are written in bytes of the small world, by these.
func world(t *testing.T) map[string]list {
	t.Helper()
	all := map[string]list{}
	for n := range worldBytes {
		tails(n, worldBytes-1, "", func(l list, b string) {
			b = string([]byte{byte(n)}) + b
			if _, ok := all[b]; ok {
				t.Errorf("the small world has %q twice", b)
			}
			all[b] = l
		})
	}
	return all
}

// TestE1SmallWorld holds Decode to each text of bytes of a small world, and Encode to each list of it.
func TestE1SmallWorld(t *testing.T) {
	all := world(t)
	met := 0
	for n := range worldBytes + 1 {
		for _, b := range words(n) {
			l, ok := all[b]
			if !ok {
				wantDecode(t, []byte(b), nil, api.ErrSyntax)
				continue
			}
			met++
			wantDecode(t, []byte(b), l, api.OK)
			wantEncode(t, l, []byte(b), api.OK)
		}
	}
	if met < 1000 {
		t.Errorf("the small world has %d lists only", met)
	}
}

// someText of at most n bytes, of few kinds, so that keys are often near each other.
func someText(rng *rand.Rand, n int) string {
	b := make([]byte, rng.Intn(n+1))
	for i := range b {
		b[i] = "a\x00\x80\xff"[rng.Intn(4)]
	}
	return string(b)
}

// someList may be, and is as long as may be at times.
func someList(rng *rand.Rand) list {
	var l list
	for range rng.Intn(2 * api.MaxChanges) {
		c := api.Change{Key: someText(rng, api.MaxKey), Gone: rng.Intn(2) == 0}
		if !c.Gone {
			c.Value = someText(rng, api.MaxValue)
		}
		if c.Key != "" {
			l = append(l, c)
		}
	}
	slices.SortFunc(l, func(c, d api.Change) int { return strings.Compare(c.Key, d.Key) })
	l = slices.CompactFunc(l, func(c, d api.Change) bool { return c.Key == d.Key })
	return l[:min(len(l), api.MaxChanges)]
}

func TestE1ThereAndBack(t *testing.T) {
	rng := rand.New(rand.NewSource(1))
	for range 5000 {
		l := someList(rng)
		b, err := code.Encode(l)
		if err != nil {
			t.Fatalf("Encode of %+v: %v", l, err)
		}
		wantDecode(t, b, l, api.OK)
	}
}

// TestE1SpoiledBytes has bytes near right ones: what is read of them must be written as just these.
func TestE1SpoiledBytes(t *testing.T) {
	rng := rand.New(rand.NewSource(2))
	for range 50000 {
		b, _ := code.Encode(someList(rng))
		for range 1 + rng.Intn(2) {
			at := rng.Intn(len(b))
			switch rng.Intn(4) {
			case 0:
				b = slices.Insert(b, at, byte(rng.Intn(256)))
			case 1:
				b[at] ^= 128
			default:
				b[at] = byte(rng.Intn(256))
			}
		}
		l, err := code.Decode(b)
		if err != nil {
			if plain.Told(err) != api.ErrSyntax || l != nil {
				t.Fatalf("Decode of %v: answers %+v %v", b, l, err)
			}
			continue
		}
		if back, err := code.Encode(l); !bytes.Equal(back, b) || err != nil {
			t.Fatalf("Decode of %v: answers %+v, of which Encode says %v %v", b, l, back, err)
		}
	}
}
