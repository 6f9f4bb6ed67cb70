package plot_test

import (
	"math"
	"slices"
	"testing"

	"burgage/api"
	"burgage/desk"
	"burgage/plot"
)

// every call, by what it asks for.
var everyWhat = []int{api.Net, api.Add, api.Take, api.Place, api.Leave, api.NextPrefix, api.NextAddr, api.List, api.Who}

// Which calls need which field.
var (
	needOwner  = []int{api.Net, api.Add, api.Place, api.NextPrefix, api.NextAddr}
	needPrefix = []int{api.Add, api.Take, api.NextPrefix, api.NextAddr}
	needAddr   = []int{api.Place, api.Leave, api.Who}
)

func needs(what int, by []int) bool { return slices.Contains(by, what) }

// smallWorld is one in which right tells no error.
var smallWorld = []string{"n/x=o", "p/x/0000000028=o", "p/x/0000001028=o", "a/x/00000003=o"}

// right gives of each kind a call that is taken in smallWorld.
func right(what int) api.Call {
	c := api.Call{What: what, Name: "x", Owner: "p", Addr: 3, Prefix: api.Prefix{Addr: 16, Len: 28}, Len: 30}
	switch what {
	case api.Net:
		c.Name = "y"
	case api.Add:
		c.Prefix.Addr = 32
	case api.Place:
		c.Addr = 5
	}
	return c
}

// askedOut gives a desk with smallWorld, and a transaction on it that may ask for nothing any more.
func askedOut(t *testing.T) (*desk.Desk, int) {
	t.Helper()
	d, id := stocked(t, smallWorld...)
	for range api.MaxReads {
		d.Get(id, "zz")
	}
	return d, id
}

func TestP2WrongWhat(t *testing.T) {
	d, id := askedOut(t)
	for _, what := range []int{0, -1, 10, 11, math.MinInt, math.MaxInt} {
		for _, name := range []string{"x", "y", "", "X"} {
			for _, id := range []int{id, id + 1} {
				wantDo(t, d, id, api.Call{What: what, Name: name, Owner: "o"}, api.Answer{}, api.ErrRange)
				wantDo(t, d, id, api.Call{What: what, Name: name, Prefix: wrongPrefixes[6].p, Addr: -1}, api.Answer{}, api.ErrRange)
			}
		}
	}
}

// TestP2WrongNames has wrong names: they are told ahead of what else is wrong, and of what the desk says.
func TestP2WrongNames(t *testing.T) {
	d, id := askedOut(t)
	for _, what := range everyWhat {
		for _, name := range wrongNames {
			for _, id := range []int{id, id + 1} {
				c := right(what)
				c.Name = name
				wantDo(t, d, id, c, api.Answer{}, api.ErrSyntax)
				c.Prefix, c.Addr = wrongPrefixes[0].p, -1
				wantDo(t, d, id, c, api.Answer{}, api.ErrSyntax)
				if !needs(what, needOwner) {
					continue
				}
				c = right(what)
				c.Owner = name
				wantDo(t, d, id, c, api.Answer{}, api.ErrSyntax)
				c.Prefix, c.Addr = wrongPrefixes[0].p, -1
				wantDo(t, d, id, c, api.Answer{}, api.ErrSyntax)
			}
		}
	}
}

func TestP2WrongPrefixesAndAddrs(t *testing.T) {
	d, id := askedOut(t)
	for _, what := range everyWhat {
		for _, id := range []int{id, id + 1} {
			for _, w := range wrongPrefixes {
				if c := right(what); needs(what, needPrefix) {
					c.Prefix = w.p
					wantDo(t, d, id, c, api.Answer{}, w.want)
				}
			}
			for _, a := range wrongAddrs {
				if c := right(what); needs(what, needAddr) {
					c.Addr = a
					wantDo(t, d, id, c, api.Answer{}, api.ErrRange)
				}
			}
		}
	}
}

// TestP2DeskErrors has calls with which nothing is wrong: then the desk's errors come up.
func TestP2DeskErrors(t *testing.T) {
	d, id := askedOut(t)
	for _, what := range everyWhat {
		wantDo(t, d, id, right(what), api.Answer{}, api.ErrFull)
		for _, id := range []int{0, -1, id + 1, math.MinInt, math.MaxInt} {
			wantDo(t, d, id, right(what), api.Answer{}, api.ErrNone)
		}
	}
	commit(t, d, id)
	for _, what := range everyWhat {
		wantDo(t, d, id, right(what), api.Answer{}, api.ErrNone)
	}
}

// TestP2NotNeeded has all that a call does not need wrong: it is not looked at.
func TestP2NotNeeded(t *testing.T) {
	for _, what := range everyWhat {
		d, id := stocked(t, smallWorld...)
		c := right(what)
		if !needs(what, needOwner) {
			c.Owner = "no name"
		}
		if !needs(what, needPrefix) {
			c.Prefix = api.Prefix{Addr: math.MinInt, Len: math.MaxInt}
		}
		if !needs(what, needAddr) {
			c.Addr = math.MinInt
		}
		if what != api.NextPrefix {
			c.Len = math.MaxInt
		}
		want, err := plot.Do(d, id, right(what))
		if err != nil {
			t.Fatalf("Do of %+v: %v", right(what), err)
		}
		d, id = stocked(t, smallWorld...)
		wantDo(t, d, id, c, want, api.OK)
	}
}

func TestP2Net(t *testing.T) {
	d, id := stocked(t)
	net := api.Call{What: api.Net, Name: "x", Owner: "o"}
	wantDo(t, d, id, net, api.Answer{}, api.OK)
	wantThere(t, d, id, "n/x", "o")
	net.Owner = "p"
	wantDo(t, d, id, net, api.Answer{}, api.ErrClash)
	wantThere(t, d, id, "n/x", "o")
	commit(t, d, id)
	id = begin(t, d)
	wantDo(t, d, id, net, api.Answer{}, api.ErrClash)
	net.Name = "xx"
	wantDo(t, d, id, net, api.Answer{}, api.OK)
	wantThere(t, d, id, "n/xx", "p")
	commit(t, d, id)
	if want := []api.Pair{{Key: "n/x", Value: "o"}, {Key: "n/xx", Value: "p"}}; !slices.Equal(d.All(), want) {
		t.Errorf("All: %v, want %v", d.All(), want)
	}
}

// TestP2NoNet has keys of a net that is not there: all others are refused, whatever else there is.
func TestP2NoNet(t *testing.T) {
	d, id := stocked(t, "n/y=o", "n/xx=o", "p/x/0000001028=o", "a/x/00000003=o")
	before := d.All()
	for _, what := range everyWhat[1:] {
		wantDo(t, d, id, right(what), api.Answer{}, api.ErrNone)
	}
	commit(t, d, id)
	if !slices.Equal(d.All(), before) {
		t.Errorf("All: %v, want %v", d.All(), before)
	}
}

// TestP2NoMoreChanges has a transaction that may change nothing any more, but what it has changed.
func TestP2NoMoreChanges(t *testing.T) {
	writes := []int{api.Net, api.Add, api.Take, api.Place, api.Leave, api.NextPrefix, api.NextAddr}
	for _, what := range everyWhat {
		d, id := stocked(t, smallWorld...)
		for i := range api.MaxChanges {
			if err := d.Put(id, "z"+string(rune('a'+i)), ""); err != nil {
				t.Fatal(err)
			}
		}
		if needs(what, writes) {
			wantDo(t, d, id, right(what), api.Answer{}, api.ErrFull)
			continue
		}
		if _, err := plot.Do(d, id, right(what)); err != nil {
			t.Errorf("Do of %+v: %v", right(what), err)
		}
	}
}
