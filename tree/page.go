package tree

import (
	"cmp"
	"slices"

	"outstation/api"
)

// compare holds two keys against each other: below 0, if the first one is below the second.
func compare(a, b api.Key) int {
	return cmp.Or(cmp.Compare(a.Time, b.Time), cmp.Compare(a.Seq, b.Seq))
}

// mostKeys is how many keys a page may have.
func mostKeys(degree int) int { return 2*degree - 1 }

// isLeaf says whether a page has no kids.
func isLeaf(p api.Node) bool { return len(p.Kids) == 0 }

// find is how many of a page's keys are below one, and whether that is the next of them.
func find(p api.Node, k api.Key) (int, bool) { return slices.BinarySearchFunc(p.Keys, k, compare) }

// enter lays a key and the value under it into a page.
func enter(p *api.Node, at int, k api.Key, v int) {
	p.Keys = insert(p.Keys, at, k)
	p.Vals = insert(p.Vals, at, v)
}

// insert is a list with one more thing at a place. It is written into the room behind the list, as long as there is some.
func insert[T any](l []T, at int, thing T) []T {
	l = append(l, thing)
	copy(l[at+1:], l[at:])
	l[at] = thing
	return l
}

// cut is the pages ahead of a page's key and behind it. They share the page's lists: the left one has no room behind its own, since there the right one's are.
func cut(p api.Node, at int) (left, right api.Node) {
	behind := at + 1
	left = api.Node{Keys: p.Keys[:at:at], Vals: p.Vals[:at:at]}
	right = api.Node{Keys: p.Keys[behind:], Vals: p.Vals[behind:]}
	if !isLeaf(p) {
		left.Kids, right.Kids = p.Kids[:behind:behind], p.Kids[behind:]
	}
	return left, right
}
