package audit

import (
	"burgage/addr"
	"burgage/api"
	"burgage/plot"
)

// sight is what was seen in a list of pairs, by the keys alone: what stands there stands there, also where its pair is
// wrong by its place or its value, so that no pair is blamed for another one.
type sight struct {
	nets     map[string]struct{}
	prefixes map[lot]struct{}
}

func look(l []api.Pair) sight {
	s := sight{nets: map[string]struct{}{}, prefixes: map[lot]struct{}{}}
	for _, pair := range l {
		e, err := read(pair.Key)
		switch {
		case err != nil:
		case e.kind == ofNet:
			s.nets[e.net] = struct{}{}
		case e.kind == ofPrefix:
			s.prefixes[e.lot] = struct{}{}
		}
	}
	return s
}

// check the pairs of which s is the sight, one by one: the place of the first wrong one, and what is wrong with it.
func (s sight) check(l []api.Pair) (int, error) {
	for i, pair := range l {
		e, err := read(pair.Key)
		// A net is found by its own key, so that this asks nothing more of it.
		if err := first(checkPlace(l, i), err, plot.Name(pair.Value), s.findNet(e.net), s.checkAddr(e)); err != nil {
			return i, err
		}
	}
	return 0, nil
}

func checkPlace(l []api.Pair, i int) error {
	if i > 0 && l[i].Key <= l[i-1].Key {
		return api.ErrShape
	}
	return nil
}

// checkAddr looks for a prefix that has an address among all that could, from the one of itself alone on.
func (s sight) checkAddr(e entry) error {
	if e.kind != ofAddr {
		return nil
	}
	var err error
	for o := e.lot; err == nil; o.prefix, err = addr.Up(o.prefix) {
		if s.hasPrefix(o) {
			return nil
		}
	}
	return api.ErrState
}

func (s sight) findNet(net string) error {
	if _, seen := s.nets[net]; !seen {
		return api.ErrNone
	}
	return nil
}

func (s sight) hasPrefix(o lot) bool {
	_, seen := s.prefixes[o]
	return seen
}
