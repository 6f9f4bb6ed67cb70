package plot

import (
	"errors"
	"slices"

	"burgage/api"
)

// lot is a prefix that is there, and whose it is.
type lot struct {
	api.Prefix
	owner string
}

// find asks for one key. Of a transaction that is not open nothing is there: the desk tells it by the same error,
// and by that error refuses what would be changed then.
func (w work) find(key string) (value string, there bool, err error) {
	value, err = w.Get(w.id, key)
	if errors.Is(err, api.ErrNone) {
		return "", false, nil
	}
	return value, err == nil, err
}

// lots asks for all prefixes of the net. They rise by Addr, of equal Addr by Len, as their keys rise by bytes.
func (w work) lots() ([]lot, error) {
	low, high := prefixes.stretch(w.Name)
	pairs, err := w.Range(w.id, low, high)
	if err != nil {
		return nil, err
	}
	var l []lot
	for _, pair := range pairs {
		// Others than these calls may have put a key there that is none of a prefix.
		if _, p, err := ReadPrefix(pair.Key); err == nil {
			l = append(l, lot{p, pair.Value})
		}
	}
	return l, nil
}

// lotsWithPrefix asks for all prefixes of the net where the call's must be one of them.
func (w work) lotsWithPrefix() ([]lot, error) {
	l, err := w.lots()
	if err != nil {
		return nil, err
	}
	if !slices.Contains(ofLots(l), w.Prefix) {
		return nil, api.ErrNone
	}
	return l, nil
}

// placed asks for all addresses of the net.
func (w work) placed() ([]int, error) {
	low, high := addrs.stretch(w.Name)
	pairs, err := w.Range(w.id, low, high)
	if err != nil {
		return nil, err
	}
	var l []int
	for _, pair := range pairs {
		if _, a, err := ReadAddr(pair.Key); err == nil {
			l = append(l, a)
		}
	}
	return l, nil
}

func (w work) putPrefix(p api.Prefix) error { return w.Put(w.id, PrefixKey(w.Name, p), w.Owner) }

func (w work) putAddr(a int) error { return w.Put(w.id, AddrKey(w.Name, a), w.Owner) }

// inner gives the prefixes within the call's, not itself.
func (w work) inner(lots []lot) []api.Prefix {
	return slices.DeleteFunc(ofLots(lots), func(p api.Prefix) bool {
		return p == w.Prefix || !within(p, w.Prefix)
	})
}

// inside gives the addresses in the call's prefix. It writes into placed.
func (w work) inside(placed []int) []int {
	return slices.DeleteFunc(placed, func(a int) bool { return !within(single(a), w.Prefix) })
}

// having gives those lots that have an address, in their order.
func having(lots []lot, a int) []lot {
	var l []lot
	for _, o := range lots {
		if within(single(a), o.Prefix) {
			l = append(l, o)
		}
	}
	return l
}

func ofLots(lots []lot) []api.Prefix {
	var l []api.Prefix
	for _, o := range lots {
		l = append(l, o.Prefix)
	}
	return l
}
