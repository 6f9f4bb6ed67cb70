package desk

import (
	"maps"
	"slices"
	"strings"

	"burgage/api"
)

// stretch is all keys from low on, below high.
type stretch struct{ low, high string }

// only gives the stretch of one key: nothing stands between it and itself with the least byte behind.
func only(key string) stretch { return stretch{key, key + "\x00"} }

func (s stretch) has(key string) bool { return s.low <= key && key < s.high }

// transaction that is open.
type transaction struct {
	// sees is the number of the last commit ahead of its beginning.
	sees int
	// asked has what it was told of, also that something is not there: one for each time it asked.
	asked []stretch
	// changes are its own, by their keys, and nobody else sees them.
	changes map[string]api.Change
}

func begun(sees int) *transaction {
	return &transaction{sees: sees, changes: map[string]api.Change{}}
}

func (t *transaction) ask(s stretch) error {
	if len(t.asked) >= api.MaxReads {
		return api.ErrFull
	}
	t.asked = append(t.asked, s)
	return nil
}

func (t *transaction) change(c api.Change) error {
	if _, ok := t.changes[c.Key]; !ok && len(t.changes) >= api.MaxChanges {
		return api.ErrFull
	}
	t.changes[c.Key] = c
	return nil
}

// over gives what it sees of a stretch with its own changes over it. It writes into seen.
func (t *transaction) over(seen []api.Pair, s stretch) []api.Pair {
	pairs := slices.DeleteFunc(seen, func(p api.Pair) bool {
		_, own := t.changes[p.Key]
		return own
	})
	for key, c := range t.changes {
		if s.has(key) && !c.Gone {
			pairs = append(pairs, api.Pair{Key: key, Value: c.Value})
		}
	}
	slices.SortFunc(pairs, func(p, q api.Pair) int { return strings.Compare(p.Key, q.Key) })
	return pairs
}

// list gives the changes in the order in which a log takes them.
func (t *transaction) list() []api.Change {
	return slices.SortedFunc(maps.Values(t.changes), func(c, d api.Change) int {
		return strings.Compare(c.Key, d.Key)
	})
}
