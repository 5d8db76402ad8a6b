package tree_test

import (
	"maps"
	"math"
	"slices"
	"testing"

	"outstation/api"
	"outstation/tree"
)

const (
	least = math.MinInt
	most  = math.MaxInt
)

// lowest and highest are the ends of all keys.
var (
	lowest  = api.Key{Time: least, Seq: least}
	highest = api.Key{Time: most, Seq: most}
)

// told is a key and the value under it, as they are told.
type told struct {
	k api.Key
	v int
}

// reading is, by the chapter's words, what a tree has: the value under each key.
type reading map[api.Key]int

// below says, by the chapter's words, whether a key is below another one.
func below(a, b api.Key) bool { return a.Time < b.Time || a.Time == b.Time && a.Seq < b.Seq }

// inOrder is a reading's keys in order, with their values.
func (r reading) inOrder() []told {
	var out []told
	for k, v := range r {
		out = append(out, told{k, v})
	}
	slices.SortFunc(out, func(a, b told) int {
		if below(a.k, b.k) {
			return -1
		}
		return 1
	})
	return out
}

// between is what is not below one key, and below another, of what is in order.
func between(l []told, from, to api.Key) []told {
	var out []told
	for _, x := range l {
		if !below(x.k, from) && below(x.k, to) {
			out = append(out, x)
		}
	}
	return out
}

// points says, by the chapter's words, which of the four points a list of pages keeps, which is not empty. What the third and the fourth say has no meaning without the second: then they count as kept.
func points(degree int, l []api.Node) [4]bool {
	out := [4]bool{counts(degree, l), hangs(l), true, true}
	if out[1] {
		out[2] = evenLeaves(l)
		out[3] = rising(gone(l, 0))
	}
	return out
}

// right says, by the chapter's words, whether a list of pages is right.
func right(degree int, l []api.Node) bool {
	return len(l) == 0 || points(degree, l) == [4]bool{true, true, true, true}
}

// counts is the first point: so many keys, so many values.
func counts(degree int, l []api.Node) bool {
	for i, p := range l {
		fewest := degree - 1
		if i == 0 {
			fewest = 1
		}
		if len(p.Keys) < fewest || len(p.Keys) > 2*degree-1 || len(p.Vals) != len(p.Keys) {
			return false
		}
	}
	return true
}

// hangs is the second point: each page but the root is the kid of just one, and is come by from the root.
func hangs(l []api.Node) bool {
	named := make([]int, len(l))
	for _, p := range l {
		if len(p.Kids) != 0 && len(p.Kids) != len(p.Keys)+1 {
			return false
		}
		for _, kid := range p.Kids {
			if kid <= 0 || kid >= len(l) {
				return false
			}
			named[kid]++
		}
	}
	for _, n := range named[1:] {
		if n != 1 {
			return false
		}
	}
	// Each is named just once, so that this ends.
	return len(under(l, 0)) == len(l)
}

// under is the places of a page, and of all that lie below it, the page first.
func under(l []api.Node, at int) []int {
	out := []int{at}
	for _, kid := range l[at].Kids {
		out = append(out, under(l, kid)...)
	}
	return out
}

// evenLeaves is the third point: all leaves are equally deep.
func evenLeaves(l []api.Node) bool {
	depths := map[int]bool{}
	for _, at := range under(l, 0) {
		if len(l[at].Kids) == 0 {
			depths[depthOf(l, at)] = true
		}
	}
	return len(depths) == 1
}

// depthOf is how many pages lie between the root and a page, both counted.
func depthOf(l []api.Node, at int) int {
	if at == 0 {
		return 1
	}
	up := slices.IndexFunc(l, func(p api.Node) bool { return slices.Contains(p.Kids, at) })
	return 1 + depthOf(l, up)
}

// gone is the keys of a page and of those below it, gone through in order, with their values as far as there are some.
func gone(l []api.Node, at int) []told {
	var out []told
	p := l[at]
	for i := range len(p.Keys) + 1 {
		if len(p.Kids) > 0 {
			out = append(out, gone(l, p.Kids[i])...)
		}
		if i < len(p.Keys) {
			x := told{k: p.Keys[i]}
			if i < len(p.Vals) {
				x.v = p.Vals[i]
			}
			out = append(out, x)
		}
	}
	return out
}

// rising is the fourth point: the keys rise.
func rising(l []told) bool {
	for i := range l {
		if i > 0 && !below(l[i-1].k, l[i].k) {
			return false
		}
	}
	return true
}

// deep is how many pages lie between the root and the leaves of right pages, both counted.
func deep(l []api.Node) int {
	n := 0
	for at := 0; len(l) > 0; at = l[at].Kids[0] {
		n++
		if len(l[at].Kids) == 0 {
			break
		}
	}
	return n
}

// flat says, by the chapter's words, whether pages are as flat as P15.7 says, with so many keys.
func flat(degree, n int, l []api.Node) bool {
	x := 2
	for range deep(l) - 1 {
		x *= degree
	}
	return len(l) == 0 || x <= n+1
}

// pair is a tree, and a reading of what it has.
type pair struct {
	t      *testing.T
	degree int
	x      *tree.Tree
	r      reading
}

// newPair is an empty tree.
func newPair(t *testing.T, degree int) *pair {
	t.Helper()
	x, errno := tree.New(degree)
	if x == nil || errno != api.OK {
		t.Fatalf("New(%d): %v, %d", degree, x, errno)
	}
	return &pair{t, degree, x, reading{}}
}

// pairOf is the tree of right pages.
func pairOf(t *testing.T, degree int, l []api.Node) *pair {
	t.Helper()
	x, errno := tree.Of(degree, l)
	if x == nil || errno != api.OK {
		t.Fatalf("Of(%d) %v: %v, %d", degree, l, x, errno)
	}
	p := &pair{t, degree, x, reading{}}
	if len(l) > 0 {
		for _, x := range gone(l, 0) {
			p.r[x.k] = x.v
		}
	}
	return p
}

// put puts a value under a key.
func (p *pair) put(k api.Key, v int) {
	p.t.Helper()
	_, there := p.r[k]
	p.r[k] = v
	if fresh := p.x.Put(k, v); fresh == there {
		p.t.Fatalf("Put(%v, %d), %d keys: %t", k, v, len(p.r), fresh)
	}
	p.gets(k)
	if n := p.x.Len(); n != len(p.r) {
		p.t.Fatalf("Len behind Put(%v, %d): %d, not %d", k, v, n, len(p.r))
	}
}

// puts puts values under keys, one after another, each of them its place.
func (p *pair) puts(keys ...api.Key) {
	p.t.Helper()
	for i, k := range keys {
		p.put(k, i)
	}
}

// gets asks for a key's value.
func (p *pair) gets(k api.Key) {
	p.t.Helper()
	want, there := p.r[k]
	if v, found := p.x.Get(k); v != want || found != there {
		p.t.Fatalf("Get(%v), %d keys: %d, %t, not %d, %t", k, len(p.r), v, found, want, there)
	}
}

// ranges goes over the keys from one on, ahead of another.
func (p *pair) ranges(from, to api.Key) {
	p.t.Helper()
	p.rangesOf(p.r.inOrder(), from, to)
}

func (p *pair) rangesOf(all []told, from, to api.Key) {
	p.t.Helper()
	if l, want := listed(p.x, from, to), between(all, from, to); !slices.Equal(l, want) {
		p.t.Fatalf("Range(%v, %v), %d keys: %v, not %v", from, to, len(all), l, want)
	}
}

// listed is what Range tells.
func listed(x *tree.Tree, from, to api.Key) []told {
	var out []told
	for k, v := range x.Range(from, to) {
		out = append(out, told{k, v})
	}
	return out
}

// nodes is the tree's pages, which must be right.
func (p *pair) nodes() []api.Node {
	p.t.Helper()
	l := p.x.Nodes()
	if len(p.r) == 0 {
		if len(l) != 0 {
			p.t.Fatalf("pages of an empty tree: %v", l)
		}
		return l
	}
	if len(l) == 0 {
		p.t.Fatalf("no pages, of %d keys", len(p.r))
	}
	if is := points(p.degree, l); is != [4]bool{true, true, true, true} {
		p.t.Fatalf("pages of the degree %d keep these points: %v: %v", p.degree, is, l)
	}
	if has, want := gone(l, 0), p.r.inOrder(); !slices.Equal(has, want) {
		p.t.Fatalf("the pages have %v, not %v", has, want)
	}
	if !flat(p.degree, len(p.r), l) {
		p.t.Fatalf("%d keys of the degree %d lie %d pages deep", len(p.r), p.degree, deep(l))
	}
	return l
}

// look holds all that is told of the tree against what it must have.
func (p *pair) look() {
	p.t.Helper()
	if n := p.x.Len(); n != len(p.r) {
		p.t.Fatalf("Len: %d, not %d", n, len(p.r))
	}
	for k := range p.r {
		for _, x := range about(k) {
			p.gets(x)
		}
	}
	for _, k := range []api.Key{lowest, highest, {}} {
		p.gets(k)
	}
	p.ranges(lowest, highest)
	p.nodes()
}

// fork is another pair, of a tree of the same pages.
func (p *pair) fork() *pair {
	p.t.Helper()
	x := pairOf(p.t, p.degree, p.x.Nodes())
	x.r = maps.Clone(p.r)
	return x
}

// about is a key, and those right below it and above it, and some with one of its numbers. Numbers go round at the ends of an int, which makes other keys yet.
func about(k api.Key) []api.Key {
	return []api.Key{
		k, {Time: k.Time, Seq: k.Seq - 1}, {Time: k.Time, Seq: k.Seq + 1}, {Time: k.Time - 1, Seq: k.Seq}, {Time: k.Time + 1, Seq: k.Seq},
		{Time: k.Time, Seq: least}, {Time: k.Time, Seq: most}, {Time: k.Seq, Seq: k.Time},
	}
}

// copied is pages that share nothing with those.
func copied(l []api.Node) []api.Node {
	var out []api.Node
	for _, p := range l {
		out = append(out, api.Node{Keys: slices.Clone(p.Keys), Vals: slices.Clone(p.Vals), Kids: slices.Clone(p.Kids)})
	}
	return out
}

// alike says whether two lists of pages are one: a list that is nil is one that is empty.
func alike(a, b []api.Node) bool {
	return slices.EqualFunc(a, b, func(p, q api.Node) bool {
		return slices.Equal(p.Keys, q.Keys) && slices.Equal(p.Vals, q.Vals) && slices.Equal(p.Kids, q.Kids)
	})
}
