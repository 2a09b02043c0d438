package expr

import "canton/api"

// fold answers what of makes of n: of each Node it is handed the Node and what it
// made of the Node's kids. False: there are more than MaxNodes. They are counted
// as they are gone through, since kids that are shared, or that hold themselves,
// may come to more than can ever be gone through.
func fold[T any](n Node, of func(n Node, kids []T) T) (T, bool) {
	left := api.MaxNodes
	return foldWithin(&left, n, of)
}

// foldWithin is fold of at most so many Nodes as are left.
func foldWithin[T any](left *int, n Node, of func(n Node, kids []T) T) (T, bool) {
	var none T
	*left--
	if *left < len(n.Kids) {
		return none, false
	}
	var kids []T
	for _, k := range n.Kids {
		made, whole := foldWithin(left, k, of)
		if !whole {
			return none, false
		}
		kids = append(kids, made)
	}
	return of(n, kids), true
}
