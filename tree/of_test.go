package tree_test

import (
	"math/rand"
	"slices"
	"testing"

	"outstation/api"
	"outstation/tree"
)

// shape is what pages look like: how many keys each has, and how many kids, by its place and how deep it lies (1: the root).
type shape struct {
	keys func(at, depth int) int
	kids func(at, depth, keys int) int
}

// evenly is the kids of pages that lie so deep at the most.
func evenly(deepest int) func(at, depth, keys int) int {
	return func(at, depth, keys int) int {
		if depth == deepest {
			return 0
		}
		return keys + 1
	}
}

// fewest is as few keys as pages may have, and greatest as many.
func fewest(degree int) func(at, depth int) int {
	return func(at, depth int) int {
		if at == 0 {
			return 1
		}
		return degree - 1
	}
}

func greatest(degree int) func(at, depth int) int {
	return func(at, depth int) int { return 2*degree - 1 }
}

// byChance is any number of keys that a page may have.
func byChance(degree int, seed int64) func(at, depth int) int {
	r := rand.New(rand.NewSource(seed))
	return func(at, depth int) int { return fewest(degree)(at, depth) + r.Intn(2*degree-fewest(degree)(at, depth)) }
}

// but is such numbers, but another one at a place.
func but(place, n int, keys func(at, depth int) int) func(at, depth int) int {
	return func(at, depth int) int {
		if at == place {
			return n
		}
		return keys(at, depth)
	}
}

// pages is the pages of a shape, each ahead of those below it, with keys that rise.
func (s shape) pages() []api.Node {
	var l []api.Node
	var grow func(depth int) int
	grow = func(depth int) int {
		at := len(l)
		l = append(l, api.Node{})
		n := s.keys(at, depth)
		var kids []int
		for range s.kids(at, depth, n) {
			kids = append(kids, grow(depth+1))
		}
		l[at] = api.Node{Keys: make([]api.Key, n), Vals: make([]int, n), Kids: kids}
		return at
	}
	grow(1)
	for i, k := range places(l) {
		*k = spread(i)
	}
	for i := range l {
		for j := range l[i].Vals {
			l[i].Vals[j] = 1000*i + j
		}
	}
	return l
}

// spread is keys that rise, three of one time; between each two there is room for others.
func spread(i int) api.Key { return api.Key{Time: i/3 - 5, Seq: 10*(i%3) - 10} }

// places are where the keys of pages stand, in order; those of a page with too few kids, or too many, as if there were some.
func places(l []api.Node) []*api.Key {
	var out []*api.Key
	var down func(at int)
	down = func(at int) {
		p := l[at]
		for i := range max(len(p.Keys), len(p.Kids)) {
			if i < len(p.Kids) {
				down(p.Kids[i])
			}
			if i < len(p.Keys) {
				out = append(out, &p.Keys[i])
			}
		}
	}
	down(0)
	return out
}

// moved is pages in another order: that at the place i goes to the place to[i].
func moved(l []api.Node, to []int) []api.Node {
	out := make([]api.Node, len(l))
	for i, p := range copied(l) {
		for j, kid := range p.Kids {
			p.Kids[j] = to[kid]
		}
		out[to[i]] = p
	}
	return out
}

// shuffled is pages in another order, with the root first.
func shuffled(l []api.Node, seed int64) []api.Node {
	to := []int{0}
	for _, at := range rand.New(rand.NewSource(seed)).Perm(len(l) - 1) {
		to = append(to, at+1)
	}
	return moved(l, to)
}

// takes holds that pages are a tree, which may be gone on with.
func takes(t *testing.T, degree int, l []api.Node) {
	t.Helper()
	p := pairOf(t, degree, l)
	if len(p.r) > 2000 { // to ask for each key would take too long
		p.ranges(lowest, highest)
		p.nodes()
	} else {
		p.look()
	}
	n := len(p.r)
	for i := range min(3*n+1, 60) {
		k := spread((i * 37) % max(n, 1))
		p.put(k, 5000+i)
		p.put(api.Key{Time: k.Time, Seq: k.Seq + 1 + i%9}, 6000+i)
		if i%20 == 0 {
			p.nodes()
		}
	}
	p.put(api.Key{Time: least}, 1)
	p.put(api.Key{Time: most}, 2)
	p.nodes()
	p.ranges(lowest, highest)
}

// refuses holds that pages are none, by the second reading too: they break one point alone, or any (0).
func refuses(t *testing.T, degree, point int, l []api.Node) {
	t.Helper()
	is := points(degree, l)
	want := [4]bool{true, true, true, true}
	if point > 0 {
		want[point-1] = false
	}
	if right(degree, l) || point > 0 && is != want {
		t.Fatalf("of the degree %d, these points are kept, not all but %d: %v: %v", degree, point, is, l)
	}
	if x, errno := tree.Of(degree, l); x != nil || errno != api.ErrForm {
		t.Fatalf("of the degree %d: %v, %d: %v", degree, x, errno, l)
	}
}

// refusesAny is refuses, with the pages in some orders.
func refusesAny(t *testing.T, degree, point int, l []api.Node) {
	t.Helper()
	refuses(t, degree, point, l)
	for seed := range int64(3) {
		refuses(t, degree, point, shuffled(l, seed))
	}
}

// P15.5

func TestOfDegrees(t *testing.T) {
	lists := map[string][]api.Node{
		"none":  nil,
		"right": {{Keys: []api.Key{key(1)}, Vals: []int{1}}},
		"wrong": {{}},
		"wild":  {{Kids: []int{0, -1, most}}, {Vals: []int{1}}},
	}
	for _, degree := range ends() {
		for name, l := range lists {
			x, errno := tree.Of(degree, l)
			want := api.Errno(api.OK)
			switch {
			case degree < 2 || degree > 16:
				want = api.ErrRange
			case name == "wrong" || name == "wild":
				want = api.ErrForm
			}
			if errno != want || (x != nil) != (want == api.OK) {
				t.Errorf("Of(%d, %s): %v, %d", degree, name, x, errno)
			}
		}
	}
}

func TestOfAsTheChapterSays(t *testing.T) {
	keys := []api.Key{{Time: 1, Seq: 1}, {Time: 1, Seq: 2}}
	p := pairOf(t, 2, []api.Node{{Keys: keys, Vals: []int{11, 12}}})
	if n := p.x.Len(); n != 2 {
		t.Errorf("%d keys", n)
	}
	p.look()
	for i, n := range []api.Node{
		{Keys: keys, Vals: []int{11}},
		{Keys: []api.Key{keys[1], keys[0]}, Vals: []int{11, 12}},
		{Keys: keys, Vals: []int{11, 12}, Kids: []int{0, 0, 0}},
	} {
		if x, errno := tree.Of(2, []api.Node{n}); x != nil || errno != api.ErrForm {
			t.Errorf("%d: %v, %d", i, x, errno)
		}
	}
}

func TestOfNoPages(t *testing.T) {
	for degree := 2; degree <= 16; degree++ {
		takes(t, degree, nil)
		takes(t, degree, []api.Node{})
	}
}

// deepest is how deep the pages of a degree are tried that have as few keys as may be, and as many.
func deepest(degree int) int {
	switch {
	case degree <= 3:
		return 4
	case degree <= 8:
		return 3
	}
	return 2
}

func TestOfRightPages(t *testing.T) {
	for degree := 2; degree <= 16; degree++ {
		for depth := 1; depth <= deepest(degree); depth++ {
			all := []func(at, depth int) int{fewest(degree), greatest(degree), but(0, 1, greatest(degree)), but(0, 2*degree-1, fewest(degree))}
			for seed := range int64(3) {
				all = append(all, byChance(degree, seed))
			}
			for _, keys := range all {
				l := shape{keys, evenly(depth)}.pages()
				takes(t, degree, l)
				for seed := range int64(2) {
					takes(t, degree, shuffled(l, seed))
				}
			}
		}
	}
	takes(t, 16, shape{fewest(16), evenly(4)}.pages())
	takes(t, 16, shape{greatest(16), evenly(3)}.pages())
}

// P15.7: pages with as few keys as may be lie just as deep as is promised at the most.
func TestAsDeepAsMayBe(t *testing.T) {
	for degree := 2; degree <= 16; degree++ {
		for depth := 1; depth <= deepest(degree); depth++ {
			p := pairOf(t, degree, shape{fewest(degree), evenly(depth)}.pages())
			n := 2
			for range depth - 1 {
				n *= degree
			}
			if p.x.Len() != n-1 || deep(p.nodes()) > depth {
				t.Errorf("of the degree %d: %d keys, %d deep", degree, p.x.Len(), deep(p.nodes()))
			}
		}
	}
}

func TestOfPagesInEveryOrder(t *testing.T) {
	for _, tried := range []struct {
		degree int
		shape
	}{{2, shape{greatest(2), evenly(2)}}, {2, shape{fewest(2), evenly(3)}}, {3, shape{greatest(3), evenly(2)}}} {
		l := tried.pages()
		want := pairOf(t, tried.degree, l)
		everyOrder(len(l)-1, func(order []int) {
			to := []int{0}
			for _, at := range order {
				to = append(to, at+1)
			}
			p := pairOf(t, tried.degree, moved(l, to))
			p.r = want.r
			p.ranges(lowest, highest)
			p.nodes()
		})
	}
}

// The same pages are right or wrong, as the degree is another one.
func TestOfEachDegree(t *testing.T) {
	for made := 2; made <= 16; made++ {
		for _, s := range []shape{{fewest(made), evenly(1)}, {greatest(made), evenly(1)}, {fewest(made), evenly(2)}, {greatest(made), evenly(2)}} {
			l := s.pages()
			for degree := 2; degree <= 16; degree++ {
				if right(degree, l) {
					takes(t, degree, l)
				} else {
					refuses(t, degree, 1, l)
				}
			}
		}
	}
}

// somePages are pages of a degree: one, and some that lie two and three deep.
func somePages(degree int) [][]api.Node {
	return [][]api.Node{
		shape{greatest(degree), evenly(1)}.pages(),
		shape{fewest(degree), evenly(1)}.pages(),
		shape{fewest(degree), evenly(2)}.pages(),
		shape{greatest(degree), evenly(2)}.pages(),
		shape{fewest(degree), evenly(3)}.pages(),
		shape{but(0, 2, byChance(degree, 1)), evenly(3)}.pages(),
	}
}

// The first point

func TestOfNumbersOfKeys(t *testing.T) {
	for _, degree := range []int{2, 3, 5, 16} {
		for depth := 1; depth <= 3; depth++ {
			base := but(0, 2, fewest(degree))
			count := len(shape{base, evenly(depth)}.pages())
			for _, place := range []int{0, 1, 2, count / 2, count - 1} {
				for _, n := range []int{0, 1, 2, degree - 2, degree - 1, degree, 2*degree - 2, 2*degree - 1, 2 * degree, 2*degree + 1, 4 * degree} {
					if place >= count {
						continue
					}
					l := shape{but(place, n, base), evenly(depth)}.pages()
					low := degree - 1
					if place == 0 {
						low = 1
					}
					if n >= low && n <= 2*degree-1 {
						takes(t, degree, l)
					} else {
						refusesAny(t, degree, 1, l)
					}
				}
			}
		}
	}
}

func TestOfARootWithoutKeys(t *testing.T) {
	for degree := 2; degree <= 16; degree++ {
		refuses(t, degree, 1, []api.Node{{}})
		leaf := shape{greatest(degree), evenly(1)}.pages()[0]
		refuses(t, degree, 1, []api.Node{{Kids: []int{1}}, leaf})
		refuses(t, degree, 2, []api.Node{leaf, leaf})
		refuses(t, degree, 0, []api.Node{{}, leaf})
		refuses(t, degree, 0, []api.Node{{}, {}})
		refuses(t, degree, 0, []api.Node{{Vals: []int{1}}})
	}
}

func TestOfNumbersOfValues(t *testing.T) {
	for _, degree := range []int{2, 3, 16} {
		for _, l := range somePages(degree) {
			for at := range l {
				if at > 4 && at < len(l)-2 {
					continue
				}
				n := len(l[at].Vals)
				for _, vals := range [][]int{nil, {}, l[at].Vals[:n-1], l[at].Vals[:n/2], append(slices.Clone(l[at].Vals), 1), make([]int, 2*n+1), make([]int, 256+n)} {
					if len(vals) == n {
						continue
					}
					x := copied(l)
					x[at].Vals = vals
					refusesAny(t, degree, 1, x)
				}
			}
		}
	}
}

// Too few values may lie in a list behind whose end there are others.
func TestOfValuesInTheRoomBehind(t *testing.T) {
	refuses(t, 2, 1, []api.Node{{Keys: []api.Key{key(1), key(2)}, Vals: []int{1, 2}[:1]}})
	refuses(t, 2, 1, []api.Node{{Keys: []api.Key{key(1), key(2)}[:0], Vals: []int{}}})
}

// The second point

func TestOfNumbersOfKids(t *testing.T) {
	for _, degree := range []int{2, 3, 16} {
		for depth := 2; depth <= 3; depth++ {
			keys := but(0, 2, fewest(degree))
			count := len(shape{keys, evenly(depth)}.pages())
			for place := range min(count, 8) {
				for n := 1; n <= 2*degree+2; n++ {
					even := evenly(depth)
					s := shape{keys, func(at, depth, keys int) int {
						if at == place && even(at, depth, keys) > 0 {
							return n
						}
						return even(at, depth, keys)
					}}
					l := s.pages()
					if k := l[place].Kids; len(k) != 0 && len(k) != len(l[place].Keys)+1 {
						refusesAny(t, degree, 0, l)
					}
				}
			}
		}
	}
}

// One kid too few, and one too many, though all else is as it should be.
func TestOfOneKidTooFewOrTooMany(t *testing.T) {
	leaf := func(times ...int) api.Node {
		var p api.Node
		for _, time := range times {
			p.Keys, p.Vals = append(p.Keys, key(time)), append(p.Vals, time)
		}
		return p
	}
	root := func(kids []int, times ...int) api.Node {
		p := leaf(times...)
		p.Kids = kids
		return p
	}
	refuses(t, 2, 0, []api.Node{root([]int{1}, 5), leaf(3)})
	refuses(t, 2, 0, []api.Node{root([]int{1, 2}, 5, 7), leaf(3), leaf(6)})
	refuses(t, 2, 0, []api.Node{root([]int{1, 2, 3}, 5), leaf(3), leaf(6), leaf(7)})
	refuses(t, 2, 0, []api.Node{root([]int{1, 2, 3, 4}, 5, 7), leaf(3), leaf(6), leaf(8), leaf(9)})
	takes(t, 2, []api.Node{root([]int{1, 2, 3}, 5, 7), leaf(3), leaf(6), leaf(8)})
	refuses(t, 2, 2, []api.Node{root([]int{1, 2, 3, 4}[:2], 5, 7), leaf(3), leaf(6), leaf(8)})
}

func TestOfKidsThatAreNoPlace(t *testing.T) {
	for _, degree := range []int{2, 3, 16} {
		for _, l := range somePages(degree) {
			for at := range l {
				for i := range l[at].Kids {
					wrong := []int{least, -1 << 32, -2, -1, 0, len(l), len(l) + 1, 1 << 32, 1<<32 + l[at].Kids[i], most, at, -l[at].Kids[i], ^l[at].Kids[i]}
					for _, kid := range wrong {
						x := copied(l)
						x[at].Kids[i] = kid
						refuses(t, degree, 0, x)
					}
					if len(l) < 20 {
						everyOtherKid(t, degree, l, at, i)
					}
				}
			}
		}
	}
}

// everyOtherKid puts each other page of the list for a kid: then one page is the kid of two, or of the same twice, and one of none.
func everyOtherKid(t *testing.T, degree int, l []api.Node, at, i int) {
	for kid := range l {
		if kid == l[at].Kids[i] {
			continue
		}
		x := copied(l)
		x[at].Kids[i] = kid
		refusesAny(t, degree, 0, x)
	}
}

// Beside an exchange of two kids all pages are come by once; only the keys do not rise.
func TestOfKidsThatAreExchanged(t *testing.T) {
	for _, degree := range []int{2, 3} {
		for _, l := range somePages(degree) {
			for a := range l {
				for b := range l {
					if a != 0 && b != 0 && a < b && depthOf(l, a) == depthOf(l, b) {
						to := make([]int, len(l))
						for i := range to {
							to[i] = i
						}
						to[a], to[b] = b, a
						x := copied(l)
						for i := range x {
							for j, kid := range x[i].Kids {
								x[i].Kids[j] = to[kid]
							}
						}
						refuses(t, degree, 4, x)
					}
				}
			}
		}
	}
}

// beside is pages with others behind them, which name places among themselves.
func beside(l []api.Node, others ...api.Node) []api.Node {
	out := copied(l)
	for i, p := range copied(others) {
		for j := range p.Kids {
			p.Kids[j] += len(l)
		}
		for j := range p.Keys {
			p.Keys[j] = api.Key{Time: 1000 + i, Seq: j}
		}
		out = append(out, p)
	}
	return out
}

// ring is pages each of which names the next one, the last one the first, and else leaves.
func ring(degree, n int) []api.Node {
	var l []api.Node
	for i := range n {
		p := api.Node{Keys: make([]api.Key, degree-1), Vals: make([]int, degree-1), Kids: []int{(i + 1) % n}}
		for j := range degree - 1 {
			p.Kids = append(p.Kids, n+i*(degree-1)+j)
		}
		l = append(l, p)
	}
	for range n * (degree - 1) {
		l = append(l, api.Node{Keys: make([]api.Key, degree-1), Vals: make([]int, degree-1)})
	}
	return l
}

func TestOfPagesBesideTheTree(t *testing.T) {
	for _, degree := range []int{2, 3, 16} {
		leaf := shape{but(0, degree-1, fewest(degree)), evenly(1)}.pages()
		for _, l := range somePages(degree) {
			refusesAny(t, degree, 2, beside(l, leaf...))
			refusesAny(t, degree, 2, beside(l, shape{but(0, degree-1, fewest(degree)), evenly(2)}.pages()...))
			for n := 1; n <= 3; n++ {
				refusesAny(t, degree, 2, beside(l, ring(degree, n)...))
			}
			refusesAny(t, degree, 0, beside(l, api.Node{}))
		}
	}
}

// A ring that the root is in, or that hangs below it.
func TestOfRingsInTheTree(t *testing.T) {
	one := func(time int, kids ...int) api.Node {
		return api.Node{Keys: []api.Key{key(time)}, Vals: []int{1}, Kids: kids}
	}
	refuses(t, 2, 0, []api.Node{one(1, 0, 0)})
	refuses(t, 2, 0, []api.Node{one(1, 0, 1), one(2)})
	refuses(t, 2, 0, []api.Node{one(5, 1, 2), one(3, 0, 3), one(7), one(4)})
	refuses(t, 2, 0, []api.Node{one(5, 1, 2), one(3, 1, 3), one(7, 4, 5), one(4), one(6), one(8)})
	refuses(t, 2, 0, []api.Node{one(5, 1, 2), one(3, 3, 2), one(7, 4, 1), one(1), one(8)})
	refuses(t, 2, 0, []api.Node{one(5, 1, 2), one(3, 2, 2), one(7, 1, 1)})
}

// R1: pages by which one might go for ever, or very deep.
func TestOfLongWays(t *testing.T) {
	const n = 100000
	var deepLeft, deepRight, twice []api.Node
	for i := range n {
		p := api.Node{Keys: []api.Key{key(i)}, Vals: []int{i}}
		if i < n-1 {
			p.Kids = []int{i + 1, n + i}
		}
		deepLeft = append(deepLeft, p)
		if i < n-1 {
			p.Kids = []int{n + i, i + 1}
		}
		deepRight = append(deepRight, p)
		if i < n-1 {
			p.Kids = []int{i + 1, i + 1}
		}
		twice = append(twice, p)
	}
	for i := range n - 1 {
		p := api.Node{Keys: []api.Key{key(i - n)}, Vals: []int{i}}
		deepRight = append(deepRight, p)
		p.Keys = []api.Key{key(i + n)}
		deepLeft = append(deepLeft, p)
	}
	for i, l := range [][]api.Node{deepLeft, deepRight, twice} {
		if x, errno := tree.Of(2, l); x != nil || errno != api.ErrForm {
			t.Errorf("%d: %v, %d", i, x, errno)
		}
	}
}

// The third point

func TestOfLeavesOfDifferentDepths(t *testing.T) {
	for _, degree := range []int{2, 3, 16} {
		for depth := 2; depth <= 3; depth++ {
			even := evenly(depth)
			keys := but(0, 2, fewest(degree))
			for place := 1; place < len(shape{keys, even}.pages()) && place < 30; place++ {
				// A page that would have kids is a leaf, and a leaf has kids.
				s := shape{keys, func(at, depth, keys int) int {
					if at != place {
						return even(at, depth, keys)
					}
					if even(at, depth, keys) > 0 {
						return 0
					}
					return keys + 1
				}}
				s.kids = bounded(s.kids, depth+1)
				refusesAny(t, degree, 3, s.pages())
			}
		}
	}
}

// bounded is kids of pages that lie above some depth, and none of others.
func bounded(kids func(at, depth, keys int) int, deepest int) func(at, depth, keys int) int {
	return func(at, depth, keys int) int {
		if depth >= deepest {
			return 0
		}
		return kids(at, depth, keys)
	}
}

// Below each of the root's three kids the leaves lie as deep as it, one page deeper, or two.
func TestOfThreeKidsOfAnyDepths(t *testing.T) {
	for one := range 3 {
		for two := range 3 {
			for three := range 3 {
				depths := []int{2 + one, 2 + two, 2 + three}
				top := 0
				s := shape{but(0, 2, fewest(2)), func(at, depth, keys int) int {
					if depth == 1 {
						return 3
					}
					if depth == 2 {
						top++
					}
					if depth < depths[top-1] {
						return keys + 1
					}
					return 0
				}}
				if l := s.pages(); one == two && two == three {
					takes(t, 2, l)
				} else {
					refusesAny(t, 2, 3, l)
				}
			}
		}
	}
}

// The fourth point

func TestOfKeysThatDoNotRise(t *testing.T) {
	for _, degree := range []int{2, 3, 16} {
		for _, l := range somePages(degree) {
			n := len(places(l))
			for i := range n - 1 {
				if n > 100 && i%11 > 0 { // pages have 15 to 32 keys: each of their places is come to
					continue
				}
				equal, fell, sameTime, low := copied(l), copied(l), copied(l), copied(l)
				*places(equal)[i+1] = *places(equal)[i]
				refusesAny(t, degree, 4, equal)

				a, b := places(fell)[i], places(fell)[i+1]
				*a, *b = *b, *a
				refusesAny(t, degree, 4, fell)

				c, d := places(sameTime)[i], places(sameTime)[i+1]
				c.Time, c.Seq = d.Time, d.Seq+1
				refuses(t, degree, 4, sameTime)

				e, f := places(low)[i], places(low)[i+1]
				f.Time, f.Seq = e.Time-1, most
				refuses(t, degree, 4, low)
			}
		}
	}
}

func TestOfKeysThatAreExchanged(t *testing.T) {
	for _, degree := range []int{2, 3} {
		for _, l := range somePages(degree) {
			n := min(len(places(l)), 60)
			for i := range n {
				for j := range i {
					x := copied(l)
					a, b := places(x)[i], places(x)[j]
					*a, *b = *b, *a
					refuses(t, degree, 4, x)
				}
			}
		}
	}
}

// Keys that rise just so, at the ends of an int.
func TestOfKeysAtTheEndsOfAnInt(t *testing.T) {
	keys := edgeKeys()
	for _, degree := range []int{4, 16} {
		l := shape{but(0, 2, fewest(degree)), evenly(2)}.pages()
		n := len(places(l))
		for from := range len(keys) - n + 1 {
			x := copied(l)
			for i, k := range places(x) {
				*k = keys[from+i]
			}
			pairOf(t, degree, x).look()
			y := copied(x)
			*places(y)[0] = highest
			refuses(t, degree, 4, y)
			y = copied(x)
			*places(y)[n-1] = lowest
			refuses(t, degree, 4, y)
		}
	}
	pairOf(t, 2, []api.Node{{Keys: []api.Key{lowest}, Vals: []int{1}}}).look()
	pairOf(t, 2, []api.Node{{Keys: []api.Key{highest}, Vals: []int{1}}}).look()
	pairOf(t, 2, []api.Node{{Keys: []api.Key{lowest, highest}, Vals: []int{1, 2}}}).look()
	refuses(t, 2, 4, []api.Node{{Keys: []api.Key{lowest, lowest}, Vals: []int{1, 2}}})
	refuses(t, 2, 4, []api.Node{{Keys: []api.Key{highest, highest}, Vals: []int{1, 2}}})
	refuses(t, 2, 4, []api.Node{{Keys: []api.Key{highest, lowest}, Vals: []int{1, 2}}})
}

// answers holds what Of answers against the second reading.
func answers(t *testing.T, degree int, l []api.Node) bool {
	t.Helper()
	x, errno := tree.Of(degree, l)
	if !right(degree, l) {
		if x != nil || errno != api.ErrForm {
			t.Fatalf("Of(%d, %v): %v, %d", degree, l, x, errno)
		}
		return false
	}
	if x == nil || errno != api.OK {
		t.Fatalf("Of(%d, %v): %v, %d", degree, l, x, errno)
	}
	return true
}

// All lists of up to three pages with one key each, with any kids.
func TestOfAllSmallLists(t *testing.T) {
	var all []api.Node
	for time := range 3 {
		all = append(all, api.Node{Keys: []api.Key{key(time)}, Vals: []int{1}})
		for a := -1; a <= 3; a++ {
			for b := -1; b <= 3; b++ {
				all = append(all, api.Node{Keys: []api.Key{key(time)}, Vals: []int{1}, Kids: []int{a, b}})
			}
		}
	}
	n := 0
	for _, p := range all {
		if answers(t, 2, []api.Node{p}) {
			n++
		}
		for _, q := range all {
			if answers(t, 2, []api.Node{p, q}) {
				n++
			}
			for _, r := range all {
				if answers(t, 2, []api.Node{p, q, r}) {
					n++
				}
			}
		}
	}
	if n != 3+2 { // three leaves, and a root above two, in two orders
		t.Errorf("%d right lists", n)
	}
}

// spoil changes something of pages by chance, which may be wrong then, or not.
func spoil(r *rand.Rand, l []api.Node) []api.Node {
	at := r.Intn(len(l))
	p := &l[at]
	i := r.Intn(max(len(p.Keys), 1))
	switch r.Intn(12) {
	case 0, 1, 2:
		if len(p.Keys) > 0 {
			p.Keys[i].Time += r.Intn(5) - 2
		}
	case 3, 4:
		if len(p.Keys) > 0 {
			p.Keys[i].Seq += r.Intn(21) - 10
		}
	case 5:
		if len(p.Keys) > 0 {
			p.Keys, p.Vals = slices.Delete(p.Keys, i, i+1), p.Vals[1:]
		}
	case 6:
		p.Keys, p.Vals = slices.Insert(p.Keys, i, spread(r.Intn(60))), append(p.Vals, 1)
	case 7:
		if len(p.Kids) > 0 {
			p.Kids[r.Intn(len(p.Kids))] = r.Intn(len(l)+2) - 1
		}
	case 8:
		if len(p.Kids) > 0 {
			p.Kids = p.Kids[:len(p.Kids)-1]
		}
	case 9:
		p.Kids = nil
	case 10:
		return append(l, copied(l[at:at+1])...)
	default:
		if len(l) > 1 {
			return slices.Delete(l, at, at+1)
		}
	}
	return l
}

func TestOfSpoiltPages(t *testing.T) {
	r := rand.New(rand.NewSource(15))
	taken := 0
	for seed := range int64(6000) {
		degree := 2 + r.Intn(3)
		l := shape{byChance(degree, seed), evenly(1 + r.Intn(3))}.pages()
		for range 1 + r.Intn(3) {
			if len(l) > 0 {
				l = spoil(r, l)
			}
		}
		if answers(t, degree, l) {
			taken++
			pairOf(t, degree, l).look()
		}
	}
	if taken < 600 || taken > 5000 {
		t.Errorf("%d of 6000 lists were taken", taken)
	}
}

// R3

// rooms is pages each of whose lists stands in a greater one, which is known by what it has.
type rooms struct {
	l    []api.Node
	keys [][]api.Key
	nums [][]int
}

// roomy is such pages; the list of them stands in a greater one, too.
func roomy(l []api.Node) rooms {
	var out rooms
	number := func(n []int) []int {
		all := append(slices.Clone(n), 901, 902, 903, 904, 905, 906, 907)
		out.nums = append(out.nums, all)
		return all[:len(n)]
	}
	for _, p := range l {
		keys := append(slices.Clone(p.Keys), key(911), key(912), key(913), key(914), key(915))
		out.keys = append(out.keys, keys)
		out.l = append(out.l, api.Node{Keys: keys[:len(p.Keys)], Vals: number(p.Vals), Kids: number(p.Kids)})
	}
	out.l = append(out.l, out.l...)[:len(l)]
	return out
}

// same says whether two such are one, with the room behind all lists.
func (a rooms) same(b rooms) bool {
	x, y := a.l[:2*len(a.l)], b.l[:2*len(b.l)]
	return alike(x, y) && slices.EqualFunc(a.keys, b.keys, slices.Equal) && slices.EqualFunc(a.nums, b.nums, slices.Equal)
}

func TestOfKeepsNothing(t *testing.T) {
	for _, degree := range []int{2, 3, 16} {
		for _, l := range somePages(degree) {
			given, was := roomy(l), roomy(l)
			p := pairOf(t, degree, given.l)
			if !given.same(was) {
				t.Fatal("Of has changed the pages")
			}
			for i := range 90 {
				k := spread(i * 31 % 90)
				p.put(api.Key{Time: k.Time, Seq: k.Seq + i%2}, i)
			}
			p.look()
			if !given.same(was) {
				t.Fatal("a Put has changed the pages")
			}
			filled(given.l)
			p.look()

			q := pairOf(t, degree, was.l)
			filled(was.l)
			q.look()
			q.puts(keysInOrder(50)...)
			q.look()
		}
	}
}

func TestOfChangesNoWrongPages(t *testing.T) {
	for _, degree := range []int{2, 3} {
		for _, l := range somePages(degree) {
			for i := range 4 {
				x := copied(l)
				switch i {
				case 0:
					x[0].Vals = append(x[0].Vals, 1)
				case 1:
					*places(x)[0] = highest
				case 2:
					x = append(x, x[0])
				default:
					x[len(x)-1].Keys = nil
				}
				if right(degree, x) { // one key is in order, whatever it is
					continue
				}
				given, was := roomy(x), roomy(x)
				refuses(t, degree, 0, given.l)
				if !given.same(was) {
					t.Fatal("Of has changed the pages")
				}
			}
		}
	}
}

// Pages may share memory, as far as they have the same: the tree must not.
func TestOfPagesThatShareMemory(t *testing.T) {
	for _, degree := range []int{2, 5} {
		for _, l := range somePages(degree) {
			x := copied(l)
			vals := make([]int, 64)
			var keys []api.Key
			for _, k := range places(x) {
				keys = append(keys, *k)
			}
			for i := range x {
				x[i].Vals = vals[:len(x[i].Keys)]
				if len(x[i].Kids) == 0 { // those of a leaf stand side by side
					at := slices.Index(keys, x[i].Keys[0])
					x[i].Keys = keys[at : at+len(x[i].Keys)]
				}
			}
			p := pairOf(t, degree, x)
			p.look()
			for i := range 70 {
				k := spread(i * 29 % 70)
				p.put(k, i)
				p.put(api.Key{Time: k.Time, Seq: k.Seq - 1}, -i)
			}
			p.look()
			for i := range vals {
				if vals[i] != 0 {
					t.Fatal("a Put has changed the pages")
				}
			}
		}
	}
}
