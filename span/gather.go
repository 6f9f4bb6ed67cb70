package span

import (
	"slices"

	"burgage/api"
)

// asker gives the question whether an address is in some span of l. The spans need not be a set.
func asker(l []api.Span) func(a int) bool {
	return func(a int) bool {
		return slices.ContainsFunc(l, func(s api.Span) bool {
			return s.Low <= a && a <= s.High
		})
	}
}

// edges gives, rising, where one of the lists may begin or cease to have addresses: from one edge up to
// the next the answer of an asker is the same.
func edges(lists ...[]api.Span) []int {
	var all []int
	for _, l := range lists {
		for _, s := range l {
			all = append(all, s.Low, s.High+1)
		}
	}
	slices.Sort(all)
	return all
}

// gather makes the set of all addresses that has says yes to. It may change its answer at the edges alone,
// and says no at the last one, so that no span is left open.
func gather(edges []int, has func(a int) bool) []api.Span {
	var set []api.Span
	open := false
	for _, e := range edges {
		in := has(e)
		switch {
		case in && !open:
			set = append(set, api.Span{Low: e})
		case !in && open:
			set[len(set)-1].High = e - 1
		}
		open = in
	}
	return set
}

// combine makes the set of all addresses that keep chooses, by whether each of two sets has them;
// it must not choose those that neither has.
func combine(a, b []api.Span, keep func(inA, inB bool) bool) ([]api.Span, error) {
	if err := Check(a); err != nil {
		return nil, err
	}
	if err := Check(b); err != nil {
		return nil, err
	}
	inA, inB := asker(a), asker(b)
	set := gather(edges(a, b), func(x int) bool { return keep(inA(x), inB(x)) })
	if len(set) > api.MaxSpans {
		return nil, api.ErrFull
	}
	return set, nil
}
