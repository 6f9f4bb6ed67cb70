package audit

import (
	"burgage/addr"
	"burgage/api"
	"burgage/plot"
)

// kind of keys.
type kind int

const (
	ofNet kind = iota + 1
	ofPrefix
	ofAddr
)

// lot is a prefix in a net.
type lot struct {
	net    string
	prefix api.Prefix
}

// entry is what a key says: of a net its name alone, of an address the prefix that has just this one.
type entry struct {
	kind kind
	lot
}

// read a key of any kind.
func read(key string) (entry, error) {
	if net, err := plot.ReadNet(key); err == nil {
		return entry{ofNet, lot{net: net}}, nil
	}
	if net, p, err := plot.ReadPrefix(key); err == nil {
		return entry{ofPrefix, lot{net, p}}, nil
	}
	net, a, err := plot.ReadAddr(key)
	if err != nil {
		return entry{}, err
	}
	p, err := addr.Both(a, a)
	return entry{ofAddr, lot{net, p}}, err
}

// pick gives the prefixes of all entries of one kind and net, as they stand in l.
func pick(l []api.Pair, k kind, net string) []api.Prefix {
	var picked []api.Prefix
	for _, pair := range l {
		if e, err := read(pair.Key); err == nil && e.kind == k && e.net == net {
			picked = append(picked, e.prefix)
		}
	}
	return picked
}
