package plot

import (
	"slices"

	"burgage/api"
	"burgage/desk"
	"burgage/free"
	"burgage/host"
)

// work of a call with which nothing is wrong. What it asks of the desk, and in which order, can be told from
// outside: each question counts, and is what the transaction may clash by.
type work struct {
	*desk.Desk
	api.Call
	id int
}

func (w work) do() (answer api.Answer, err error) {
	_, there, err := w.find(NetKey(w.Name))
	if err != nil {
		return answer, err
	}
	if w.What != api.Net && !there {
		return answer, api.ErrNone
	}
	switch w.What {
	case api.Net:
		err = w.net(there)
	case api.Add:
		err = w.add()
	case api.Take:
		err = w.take()
	case api.Place:
		err = w.place()
	case api.Leave:
		err = w.leave()
	case api.NextPrefix:
		answer.Prefix, err = w.nextPrefix()
	case api.NextAddr:
		answer.Addr, err = w.nextAddr()
	case api.List:
		answer.List, err = w.list()
	case api.Who:
		answer.Owner, err = w.who()
	}
	return answer, err
}

func (w work) net(there bool) error {
	if there {
		return api.ErrClash
	}
	return w.Put(w.id, NetKey(w.Name), w.Owner)
}

func (w work) add() error {
	_, there, err := w.find(PrefixKey(w.Name, w.Prefix))
	switch {
	case err != nil:
		return err
	case there:
		return api.ErrClash
	}
	return w.putPrefix(w.Prefix)
}

func (w work) take() error {
	key := PrefixKey(w.Name, w.Prefix)
	_, there, err := w.find(key)
	switch {
	case err != nil:
		return err
	case !there:
		return api.ErrNone
	}
	lots, err := w.lots()
	if err != nil {
		return err
	}
	placed, err := w.placed()
	if err != nil {
		return err
	}
	// Each of the addresses in it is in itself, and so in another one, too, if it is in two.
	left := func(a int) bool { return len(having(lots, a)) < 2 }
	if len(w.inner(lots)) > 0 || slices.ContainsFunc(w.inside(placed), left) {
		return api.ErrState
	}
	return w.Drop(w.id, key)
}

func (w work) place() error {
	lots, err := w.lots()
	if err != nil {
		return err
	}
	_, there, err := w.find(AddrKey(w.Name, w.Addr))
	switch {
	case err != nil:
		return err
	case len(having(lots, w.Addr)) == 0:
		return api.ErrState
	case there:
		return api.ErrClash
	}
	return w.putAddr(w.Addr)
}

func (w work) leave() error {
	key := AddrKey(w.Name, w.Addr)
	_, there, err := w.find(key)
	switch {
	case err != nil:
		return err
	case !there:
		return api.ErrNone
	}
	return w.Drop(w.id, key)
}

func (w work) nextPrefix() (api.Prefix, error) {
	lots, err := w.lotsWithPrefix()
	if err != nil {
		return api.Prefix{}, err
	}
	p, err := free.First(w.Prefix, w.inner(lots), w.Len)
	if err != nil {
		return api.Prefix{}, err
	}
	if p == w.Prefix {
		return api.Prefix{}, api.ErrClash
	}
	if err := w.putPrefix(p); err != nil {
		return api.Prefix{}, err
	}
	return p, nil
}

func (w work) nextAddr() (int, error) {
	if _, err := w.lotsWithPrefix(); err != nil {
		return 0, err
	}
	placed, err := w.placed()
	if err != nil {
		return 0, err
	}
	a, err := host.Next(w.Prefix, w.inside(placed))
	if err != nil {
		return 0, err
	}
	if err := w.putAddr(a); err != nil {
		return 0, err
	}
	return a, nil
}

func (w work) list() ([]api.Prefix, error) {
	lots, err := w.lots()
	if err != nil {
		return nil, err
	}
	return ofLots(lots), nil
}

func (w work) who() (string, error) {
	owner, there, err := w.find(AddrKey(w.Name, w.Addr))
	if err != nil || there {
		return owner, err
	}
	lots, err := w.lots()
	if err != nil {
		return "", err
	}
	l := having(lots, w.Addr)
	if len(l) == 0 {
		return "", api.ErrNone
	}
	// Those that have one address lie in one another, so that the last one of them has the greatest Len.
	return l[len(l)-1].owner, nil
}
