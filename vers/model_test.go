package vers_test

import (
	"math/rand"
	"slices"
	"testing"

	"burgage/api"
	"burgage/plain"
	"burgage/vers"
)

// row is a version as the chapter tells it.
type row struct {
	key, value string
	at         int
	gone       bool
}

// model is a table of versions in no order, each of which is looked at for each answer.
type model struct {
	rows []row
	top  int
}

func (m *model) add(r row) api.Errno {
	if r.at < m.top {
		return api.ErrState
	}
	m.rows = slices.DeleteFunc(m.rows, func(q row) bool { return q.key == r.key && q.at == r.at })
	m.rows = append(m.rows, r)
	m.top = max(m.top, r.at)
	return api.OK
}

func (m *model) get(key string, at int) (string, api.Errno) {
	best := row{gone: true}
	for _, r := range m.rows {
		if r.key == key && r.at <= at && r.at > best.at {
			best = r
		}
	}
	if best.gone {
		return "", api.ErrNone
	}
	return best.value, api.OK
}

func (m *model) within(keys []string, low, high string, at int) pairs {
	var l pairs
	for _, key := range keys {
		if value, told := m.get(key, at); told == api.OK && low <= key && key < high {
			l = append(l, api.Pair{Key: key, Value: value})
		}
	}
	return l
}

func (m *model) touched(low, high string, at int) bool {
	return slices.ContainsFunc(m.rows, func(r row) bool { return low <= r.key && r.key < high && r.at > at })
}

// collect asks of each version whether one of the same key hides it from at on, or it is gone there.
func (m *model) collect(at int) int {
	var left []row
	for _, r := range m.rows {
		hidden := slices.ContainsFunc(m.rows, func(q row) bool { return q.key == r.key && q.at > r.at && q.at <= at })
		if r.at > at || !hidden && !r.gone {
			left = append(left, r)
		}
	}
	n := len(m.rows) - len(left)
	m.rows = left
	return n
}

// TestV3CollectHidesNothing has each Get, from the number on, told the same behind Collect as ahead of it.
func TestV3CollectHidesNothing(t *testing.T) {
	keys := []string{"a", "b", "c"}
	for seed := range int64(200) {
		rng := rand.New(rand.NewSource(seed))
		v := vers.New()
		for at := 1; at <= 12; at++ {
			key := keys[rng.Intn(len(keys))]
			if rng.Intn(3) == 0 {
				drop(t, v, key, at)
			} else {
				put(t, v, key, string(rune('A'+at)), at)
			}
		}
		from := rng.Intn(14)
		var ahead []pairs
		for at := from; at <= 14; at++ {
			l, _ := v.Range("", end, at)
			ahead = append(ahead, l)
		}
		size := v.Size()
		n, err := v.Collect(from)
		if err != nil || v.Size() != size-n {
			t.Fatalf("Collect at %d: tells %d %v, and leaves %d of %d", from, n, err, v.Size(), size)
		}
		for at := from; at <= 14; at++ {
			wantRange(t, v, "", end, at, ahead[at-from], api.OK)
		}
	}
}

// TestV1V2V3Model holds a table to the model through many calls of all kinds.
func TestV1V2V3Model(t *testing.T) {
	keys := []string{"a", "a\x00", "ab", "b", "ba", "c", "\xfe"}
	bounds := append([]string{"", "aa", "d", end}, keys...)
	for seed := range int64(60) {
		rng := rand.New(rand.NewSource(seed))
		v, m := vers.New(), &model{}
		for range 300 {
			step(t, rng, keys, v, m)
			low, high := bounds[rng.Intn(len(bounds))], bounds[rng.Intn(len(bounds))]
			at := rng.Intn(m.top + 3)
			key := keys[rng.Intn(len(keys))]
			value, told := m.get(key, at)
			wantGet(t, v, key, at, value, told)
			wantRange(t, v, low, high, at, m.within(keys, low, high, at), api.OK)
			wantTouched(t, v, low, high, at, m.touched(low, high, at), api.OK)
			wantSize(t, v, len(m.rows), m.top)
		}
		if t.Failed() {
			t.Fatalf("seed %d", seed)
		}
	}
}

// step writes into both, at a number about Top, or collects both.
func step(t *testing.T, rng *rand.Rand, keys []string, v *vers.Table, m *model) {
	t.Helper()
	r := row{key: keys[rng.Intn(len(keys))], at: max(1, m.top-1+rng.Intn(3))}
	switch rng.Intn(8) {
	case 0:
		at := rng.Intn(m.top + 2)
		wantCollect(t, v, at, m.collect(at), api.OK)
	case 1, 2:
		r.gone = true
		if err := v.Drop(r.key, r.at); plain.Told(err) != m.add(r) {
			t.Errorf("Drop of %v: %v", r, err)
		}
	default:
		r.value = string(rune('A' + rng.Intn(26)))
		if err := v.Put(r.key, r.value, r.at); plain.Told(err) != m.add(r) {
			t.Errorf("Put of %v: %v", r, err)
		}
	}
}
