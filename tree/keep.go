package tree

import (
	"cmp"
	"slices"

	"burgage/addr"
	"burgage/api"
)

// order is how a tree rises. Of prefixes that have one address in common it puts the one with the least
// Len first, for that one begins no later than the others.
func order(p, q api.Prefix) int {
	return cmp.Or(cmp.Compare(p.Addr, q.Addr), cmp.Compare(p.Len, q.Len))
}

// under says whether p is within q, and not q itself. Both are checked, so that no error can come.
func under(p, q api.Prefix) bool {
	in, err := addr.Within(p, q)
	return err == nil && in && p != q
}

// keep makes the tree of those prefixes of l that wanted says yes to.
func keep(l []api.Prefix, wanted func(q api.Prefix) bool) []api.Prefix {
	var kept []api.Prefix
	for _, q := range l {
		if wanted(q) {
			kept = append(kept, q)
		}
	}
	return kept
}

// roots makes the tree of those prefixes of l that are within no other one of l.
func roots(l []api.Prefix) []api.Prefix {
	return keep(l, func(q api.Prefix) bool {
		return !slices.ContainsFunc(l, func(r api.Prefix) bool { return under(q, r) })
	})
}
