package tree

import (
	"math"

	"outstation/api"
)

// root is the root's place among the pages.
const root = 0

// isRight says whether a list of pages, one at least, is right. Pages are gone down only when it is known that each is come by once, and that they are flat.
func isRight(degree int, l []api.Node) bool {
	for at, p := range l {
		if !isWhole(degree, at, p) {
			return false
		}
	}
	return areEven(l) && rise(l)
}

// isWhole says whether a page has as many keys, values and kids as it may.
func isWhole(degree, at int, p api.Node) bool {
	least := degree - 1
	if at == root {
		least = 1
	}
	n := len(p.Keys)
	return n >= least && n <= mostKeys(degree) && len(p.Vals) == n && (isLeaf(p) || len(p.Kids) == n+1)
}

// areEven says whether each page is come by from the root, once, and whether all leaves are equally deep.
func areEven(l []api.Node) bool {
	come := make([]bool, len(l))
	come[root] = true
	count := 1
	for level := []int{root}; len(level) > 0; {
		var below []int
		for _, at := range level {
			if isLeaf(l[at]) != isLeaf(l[level[0]]) {
				return false
			}
			for _, kid := range l[at].Kids {
				if kid < 0 || kid >= len(l) || come[kid] {
					return false
				}
				come[kid] = true
				below = append(below, kid)
			}
		}
		count += len(below)
		level = below
	}
	return count == len(l)
}

// rise says whether the keys of pages rise that are even.
func rise(l []api.Node) bool {
	// No key is below this one, so that none is passed over, in whatever order they are.
	least := api.Key{Time: math.MinInt, Seq: math.MinInt}
	first, last := true, least
	for k := range (&Tree{pages: l}).from(least) {
		if !first && compare(last, k) >= 0 {
			return false
		}
		first, last = false, k
	}
	return true
}
