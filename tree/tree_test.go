package tree_test

import (
	"fmt"
	"iter"
	"math/rand"
	"slices"
	"testing"

	"outstation/api"
	"outstation/tree"
)

// key is a key of a time.
func key(time int) api.Key { return api.Key{Time: time} }

// ends are numbers at the ends of an int, and about those that a degree may be.
func ends() []int {
	return []int{least, least + 1, -1 << 32, -1<<32 + 2, -17, -16, -3, -2, -1, 0, 1, 2, 3, 15, 16, 17, 18, 32, 255, 256, 258, 1 << 31, 1<<32 + 2, 1<<62 + 2, most - 1, most}
}

// edgeKeys are keys in order: below 0 and above it, of the same time, at the ends of an int.
func edgeKeys() []api.Key {
	var out []api.Key
	numbers := []int{least, least + 1, -1 << 40, -2, -1, 0, 1, 2, 1 << 40, most - 1, most}
	for _, time := range numbers {
		for _, seq := range numbers {
			out = append(out, api.Key{Time: time, Seq: seq})
		}
	}
	return out
}

// keysInOrder are n keys in order, of which four have a time each, half of them below 0.
func keysInOrder(n int) []api.Key {
	var out []api.Key
	for i := range n {
		out = append(out, api.Key{Time: i/4 - n/8, Seq: 3 * (i%4 - 2)})
	}
	return out
}

// orders are keys that are in order, in others.
func orders(l []api.Key) map[string][]api.Key {
	falls := slices.Clone(l)
	slices.Reverse(falls)
	var outside, inside, halves, twice []api.Key
	for i := range l {
		at := i / 2
		if i%2 == 1 {
			at = len(l) - 1 - i/2
		}
		outside = append(outside, l[at])
		halves = append(halves, l[(i*2)%len(l)+(i*2/len(l))*(1-len(l)%2)])
		twice = append(twice, l[i], l[i/2], l[i])
	}
	inside = slices.Clone(outside)
	slices.Reverse(inside)
	out := map[string][]api.Key{"rising": l, "falling": falls, "from outside": outside, "from inside": inside, "every second one": halves, "several times": twice}
	for seed := range 3 {
		mixed := slices.Clone(l)
		rand.New(rand.NewSource(int64(seed))).Shuffle(len(l), func(i, j int) { mixed[i], mixed[j] = mixed[j], mixed[i] })
		out["mixed "+string(rune('a'+seed))] = mixed
	}
	return out
}

// P15.1

func TestNew(t *testing.T) {
	for _, degree := range ends() {
		x, errno := tree.New(degree)
		if degree < 2 || degree > 16 {
			if x != nil || errno != api.ErrRange {
				t.Errorf("New(%d): %v, %d", degree, x, errno)
			}
			continue
		}
		if x == nil || errno != api.OK {
			t.Fatalf("New(%d): %v, %d", degree, x, errno)
		}
	}
	for degree := 2; degree <= 16; degree++ {
		newPair(t, degree).look()
	}
}

func TestTreesAreNotOne(t *testing.T) {
	a, b := newPair(t, 2), newPair(t, 2)
	a.puts(keysInOrder(20)...)
	b.look()
	b.puts(keysInOrder(3)...)
	a.look()
	b.look()
}

// P15.2

func TestAnEmptyTreeHasNoKey(t *testing.T) {
	p := newPair(t, 2)
	for _, k := range append(edgeKeys(), keysInOrder(9)...) {
		p.gets(k)
	}
	if n := p.x.Len(); n != 0 {
		t.Errorf("%d keys", n)
	}
}

func TestPutTellsWhetherAKeyWasNew(t *testing.T) {
	p := newPair(t, 2)
	for _, put := range []struct {
		k     api.Key
		v     int
		fresh bool
		n     int
	}{
		{api.Key{Time: 5, Seq: 0}, 50, true, 1}, {api.Key{Time: 1, Seq: 2}, 12, true, 2}, {api.Key{Time: 1, Seq: 1}, 11, true, 3}, {api.Key{Time: 5, Seq: 0}, 55, false, 3},
		{api.Key{Time: 0, Seq: 5}, 5, true, 4}, {api.Key{Time: 2, Seq: 1}, 21, true, 5}, {api.Key{Time: 2, Seq: 1}, 21, false, 5}, {api.Key{Time: 1, Seq: 2}, 0, false, 5},
	} {
		if fresh := p.x.Put(put.k, put.v); fresh != put.fresh {
			t.Errorf("Put(%v, %d): %t", put.k, put.v, fresh)
		}
		if v, found := p.x.Get(put.k); v != put.v || !found {
			t.Errorf("Get(%v): %d, %t", put.k, v, found)
		}
		if n := p.x.Len(); n != put.n {
			t.Errorf("%d keys behind Put(%v, %d), not %d", n, put.k, put.v, put.n)
		}
	}
	for _, k := range []api.Key{{Time: 5, Seq: 1}, {Time: 1}, {Time: 1, Seq: 3}, {}, {Time: 6}, {Time: -1, Seq: 5}} {
		if v, found := p.x.Get(k); v != 0 || found {
			t.Errorf("Get(%v): %d, %t", k, v, found)
		}
	}
}

func TestAnyValueIsKept(t *testing.T) {
	p := newPair(t, 2)
	for _, k := range keysInOrder(12) {
		for _, v := range []int{0, 1, -1, least, most, 0} {
			p.put(k, v)
		}
	}
	p.look()
}

// degreesAndSizes are degrees, and how many keys go into a tree of each: so many that they can't lie less than four pages deep.
func degreesAndSizes() map[int]int { return map[int]int{2: 70, 3: 230, 5: 1010, 16: 32790} }

// P15.2, P15.4, P15.7: all that is told, at each size on the way, of trees whose keys come in several orders.
func TestKeysInSeveralOrders(t *testing.T) {
	for degree, size := range degreesAndSizes() {
		for name, keys := range orders(keysInOrder(size)) {
			t.Run(fmt.Sprint(degree, " ", name), func(t *testing.T) {
				t.Parallel()
				p := newPair(t, degree)
				depths := map[int]bool{}
				for i, k := range keys {
					p.put(k, i)
					if len(p.r) <= 550 || i%983 == 0 {
						depths[deep(p.nodes())] = true
					}
				}
				p.look()
				depths[deep(p.nodes())] = true
				if !depths[1] || !depths[2] || !depths[3] || !depths[4] {
					t.Errorf("of the degree %d: %v", degree, depths)
				}
			})
		}
	}
}

func TestKeysAtTheEndsOfAnInt(t *testing.T) {
	for _, degree := range []int{2, 5, 16} {
		for _, keys := range orders(edgeKeys()) {
			p := newPair(t, degree)
			for i, k := range keys {
				p.put(k, i)
				if i%9 == 0 {
					p.look()
				}
			}
			p.look()
		}
	}
}

// The keys that are there, and that are not, at each size of small trees.
func TestGetAtEachSize(t *testing.T) {
	for degree := 2; degree <= 16; degree++ {
		for _, keys := range orders(keysInOrder(4*degree + 2)) {
			p := newPair(t, degree)
			for i, k := range keys {
				p.put(k, -i)
				p.look()
			}
		}
	}
}

func TestAKeySeveralTimes(t *testing.T) {
	for _, degree := range []int{2, 3, 16} {
		for _, n := range []int{1, 2*degree - 1, 2 * degree, 4*degree + 1, 100} {
			p := newPair(t, degree)
			keys := keysInOrder(n)
			p.puts(keys...)
			pages := len(p.x.Nodes())
			for round := range 3 {
				for i, k := range keys {
					p.put(k, 1000*round+i)
				}
				p.look()
			}
			if now := len(p.x.Nodes()); now != pages {
				t.Errorf("%d pages, not %d, though no key is new", now, pages)
			}
		}
	}
}

// P15.3

// bounds are keys to go from and to: each of a tree's, and those about it, and the ends.
func bounds(keys []api.Key) []api.Key {
	out := []api.Key{lowest, highest, {}}
	for _, k := range keys {
		out = append(out, about(k)[:5]...)
	}
	return out
}

func TestRangeAboutEveryKey(t *testing.T) {
	for _, degree := range []int{2, 3, 16} {
		for _, n := range []int{0, 1, 2, 2*degree - 1, 2 * degree, 40} {
			p := newPair(t, degree)
			keys := keysInOrder(max(n, 1))
			p.puts(orders(keys)["mixed a"][:n]...)
			all := p.r.inOrder()
			for _, from := range bounds(keys) {
				for _, to := range bounds(keys) {
					p.rangesOf(all, from, to)
				}
			}
		}
	}
}

func TestRangeAtTheEndsOfAnInt(t *testing.T) {
	p := newPair(t, 2)
	keys := edgeKeys()
	p.puts(orders(keys)["mixed b"]...)
	all := p.r.inOrder()
	for _, from := range keys {
		for _, to := range keys {
			p.rangesOf(all, from, to)
		}
	}
	if l := listed(p.x, lowest, highest); len(l) != len(keys)-1 || l[0].k != lowest {
		t.Errorf("%d of %d keys", len(l), len(keys))
	}
	if l := listed(p.x, highest, highest); len(l) != 0 {
		t.Errorf("%v", l)
	}
}

func TestRangeAsTheChapterSays(t *testing.T) {
	p := newPair(t, 2)
	p.put(api.Key{Time: 5}, 50)
	p.put(api.Key{Time: 1, Seq: 2}, 12)
	p.put(api.Key{Time: 1, Seq: 1}, 11)
	p.put(api.Key{Time: 5}, 55)
	if l := listed(p.x, api.Key{Time: 1, Seq: 2}, api.Key{Time: 6}); !slices.Equal(l, []told{{api.Key{Time: 1, Seq: 2}, 12}, {api.Key{Time: 5}, 55}}) {
		t.Errorf("%v", l)
	}
	if l := listed(p.x, api.Key{Time: 5}, api.Key{Time: 5}); len(l) != 0 {
		t.Errorf("%v", l)
	}
}

// some is a tree of the least degree with keys of the times 0 to 39, four pages deep.
func some(t *testing.T) *pair {
	p := newPair(t, 2)
	for i := range 40 {
		p.put(key(i*27%40), i)
	}
	if deep(p.x.Nodes()) < 4 {
		t.Fatal("flat")
	}
	return p
}

// goes calls an iterator, which is left at the nth key; it must not tell any key behind that.
func goes(t *testing.T, all iter.Seq2[api.Key, int], n int) []told {
	t.Helper()
	var out []told
	all(func(k api.Key, v int) bool {
		if len(out) >= n {
			t.Fatalf("%v is told, though it was left at the key %d", k, n)
		}
		out = append(out, told{k, v})
		return len(out) < n
	})
	return out
}

func TestRangeIsLeftAtAnyPlace(t *testing.T) {
	p := some(t)
	for from := range 40 {
		for to := from; to <= 40; to++ {
			want := between(p.r.inOrder(), key(from), key(to))
			all := p.x.Range(key(from), key(to))
			for n := 1; n <= len(want); n++ {
				if l := goes(t, all, n); !slices.Equal(l, want[:n]) {
					t.Fatalf("from %d to %d, left at the key %d: %v", from, to, n, l)
				}
			}
			if l := goes(t, all, most); !slices.Equal(l, want) {
				t.Fatalf("from %d to %d, gone over again: %v", from, to, l)
			}
		}
	}
	p.look()
}

func TestRangeIsLeftByABreak(t *testing.T) {
	p := some(t)
	all := p.x.Range(key(3), key(30))
	for n := range 27 {
		last := -1
		for k := range all {
			last = k.Time
			if k.Time == 3+n {
				break
			}
		}
		if last != 3+n {
			t.Errorf("%d, not %d", last, 3+n)
		}
	}
}

func TestRangeIsGoneOverAmidItself(t *testing.T) {
	p := some(t)
	all := p.x.Range(key(10), key(20))
	n := 0
	for a := range all {
		for b, v := range all {
			if a.Time != 10+n/10 || b.Time != 10+n%10 || v != p.r[b] {
				t.Fatalf("%v, %v, %d, behind %d", a, b, v, n)
			}
			n++
		}
	}
	if n != 100 {
		t.Errorf("%d", n)
	}
}

func TestRangesThatAreGoneOverInTurns(t *testing.T) {
	p := some(t)
	all := p.x.Range(key(0), key(40))
	a, stopA := iter.Pull2(all)
	defer stopA()
	b, stopB := iter.Pull2(all)
	defer stopB()
	a()
	for i := range 39 {
		ka, va, isA := a()
		kb, vb, isB := b()
		if ka != key(i+1) || kb != key(i) || va != p.r[ka] || vb != p.r[kb] || !isA || !isB {
			t.Fatalf("%v, %d, %t and %v, %d, %t", ka, va, isA, kb, vb, isB)
		}
	}
}

// What Range tells is the tree as it is when it is gone over, not as it was when it was asked for.
func TestRangeBehindAPut(t *testing.T) {
	for _, degree := range []int{2, 16} {
		p := newPair(t, degree)
		from, to := api.Key{Time: -8, Seq: 1}, api.Key{Time: 9, Seq: -2}
		all := p.x.Range(from, to)
		for i, k := range orders(keysInOrder(120))["mixed c"] {
			p.put(k, i)
			p.put(key(0), i)
			var l []told
			for k, v := range all {
				l = append(l, told{k, v})
			}
			if want := between(p.r.inOrder(), from, to); !slices.Equal(l, want) {
				t.Fatalf("behind %d Puts: %v, not %v", i+1, l, want)
			}
		}
	}
}

// What is told of a tree that is changed meanwhile is free, but it ends, and the tree is right behind it.
func TestPutsAmidARangeEnd(t *testing.T) {
	puts := map[string]func(k api.Key, i int) api.Key{
		"right behind": func(k api.Key, i int) api.Key { return api.Key{Time: k.Time, Seq: k.Seq + 1} },
		"right ahead":  func(k api.Key, i int) api.Key { return api.Key{Time: k.Time, Seq: k.Seq - 1} },
		"at the end":   func(k api.Key, i int) api.Key { return key(1000 + i) },
		"at the front": func(k api.Key, i int) api.Key { return key(-1000 - i) },
		"there":        func(k api.Key, i int) api.Key { return k },
		"all about":    func(k api.Key, i int) api.Key { return api.Key{Time: i * 7919 % 50, Seq: i} },
	}
	for _, degree := range []int{2, 3, 16} {
		for name, where := range puts {
			for n := range 45 {
				for _, many := range []int{1, 3, 40} {
					p := newPair(t, degree)
					p.puts(orders(keysInOrder(45))["mixed a"][:n]...)
					steps := 0
					for k := range p.x.Range(lowest, highest) {
						for range many {
							steps++
							p.put(where(k, steps), steps)
						}
						if steps > 100000 {
							t.Fatalf("%s: does not end, of %d keys", name, n)
						}
					}
					p.nodes()
				}
			}
		}
	}
}

// P15.4, R3

// filled is pages each of whose lists is written over, with the room behind it.
func filled(l []api.Node) {
	for i, p := range l[:cap(l)] {
		for _, k := range [][]api.Key{p.Keys[:cap(p.Keys)]} {
			for j := range k {
				k[j] = api.Key{Time: 777, Seq: 777}
			}
		}
		for _, n := range [][]int{p.Vals[:cap(p.Vals)], p.Kids[:cap(p.Kids)]} {
			for j := range n {
				n[j] = 777
			}
		}
		l[:cap(l)][i] = api.Node{}
	}
}

func TestNodesAreNewMemory(t *testing.T) {
	for _, degree := range []int{2, 3, 16} {
		for _, n := range []int{1, 2*degree - 1, 2 * degree, 150} {
			for _, keys := range orders(keysInOrder(n)) {
				p := newPair(t, degree)
				for i, k := range keys {
					p.put(k, i)
					if i%11 == 0 {
						filled(p.x.Nodes())
					}
				}
				a, b := p.x.Nodes(), p.x.Nodes()
				if !alike(a, b) {
					t.Fatal("other pages, though nothing was put")
				}
				was := copied(b)
				filled(a)
				if !alike(b, was) {
					t.Fatal("two answers share memory")
				}
				p.look()
				filled(b)
				p.look()
			}
		}
	}
}

// No two lists of one answer share memory, nor the room behind them.
func TestListsOfOneAnswerShareNothing(t *testing.T) {
	for _, degree := range []int{2, 5} {
		p := newPair(t, degree)
		p.puts(orders(keysInOrder(120))["mixed b"]...)
		for at := range p.x.Nodes() {
			l := p.x.Nodes()
			want := copied(l)
			for part := range 3 {
				own := api.Node{}
				switch part {
				case 0:
					own.Keys = l[at].Keys
				case 1:
					own.Vals = l[at].Vals
				default:
					own.Kids = l[at].Kids
				}
				filled([]api.Node{own})
				// What was written over is made again: all else must be as it was.
				copy(l[at].Keys, want[at].Keys)
				copy(l[at].Vals, want[at].Vals)
				copy(l[at].Kids, want[at].Kids)
				if !alike(l, want) {
					t.Fatalf("the page %d shares memory with another list", at)
				}
			}
		}
	}
}

func TestPutsDoNotChangeNodes(t *testing.T) {
	for _, degree := range []int{2, 16} {
		for _, keys := range orders(keysInOrder(130)) {
			p := newPair(t, degree)
			p.puts(keys[:60]...)
			l := p.x.Nodes()
			was := copied(l)
			p.puts(keys[30:]...)
			if !alike(l, was) {
				t.Fatal("a Put has changed what Nodes answered")
			}
		}
	}
}

// R4
func TestTreesWithTheSamePutsHaveTheSamePages(t *testing.T) {
	a, b := newPair(t, 3), newPair(t, 3)
	for i, k := range orders(keysInOrder(200))["mixed a"] {
		a.put(k, i)
		b.put(k, i)
	}
	if !alike(a.nodes(), b.nodes()) {
		t.Error("other pages")
	}
}

// P15.6

func TestNodesThereAndBack(t *testing.T) {
	for degree := 2; degree <= 16; degree++ {
		for name, keys := range orders(keysInOrder(8*degree + 9)) {
			p := newPair(t, degree)
			for i, k := range keys {
				p.put(k, i)
				if i%3 == 0 || i < 2*degree {
					p.fork().look()
				}
			}
			// The tree that is gone on with is one of Nodes each time.
			q := newPair(t, degree)
			for i, k := range keys {
				q.put(k, i)
				q = q.fork()
			}
			q.look()
			if name == "rising" && len(p.r) != len(q.r) {
				t.Errorf("%d, %d", len(p.r), len(q.r))
			}
		}
	}
}

func TestAnEmptyTreeThereAndBack(t *testing.T) {
	for degree := 2; degree <= 16; degree++ {
		for _, l := range [][]api.Node{nil, {}, newPair(t, degree).x.Nodes(), make([]api.Node, 0, 4)} {
			p := pairOf(t, degree, l)
			p.look()
			p.puts(keysInOrder(2*degree + 3)...)
			p.look()
		}
	}
}

func TestForksAreNotOne(t *testing.T) {
	for _, degree := range []int{2, 3, 16} {
		for name, keys := range orders(keysInOrder(140)) {
			p := newPair(t, degree)
			p.puts(keys[:90]...)
			q := p.fork()
			for i, k := range keys[70:] {
				if i%2 == 0 {
					p.put(k, 1000+i)
				} else {
					q.put(k, 2000+i)
				}
				if i%10 == 0 {
					p.look()
					q.look()
				}
			}
			p.look()
			q.look()
			if name == "mixed a" && len(p.r) == len(q.r) && slices.Equal(p.r.inOrder(), q.r.inOrder()) {
				t.Error("the same keys")
			}
		}
	}
}

// P15.8

// everyOrder calls with each order of some places.
func everyOrder(n int, do func(order []int)) {
	order := make([]int, 0, n)
	used := make([]bool, n)
	var next func()
	next = func() {
		if len(order) == n {
			do(order)
			return
		}
		for i := range n {
			if !used[i] {
				used[i], order = true, append(order, i)
				next()
				used[i], order = false, order[:len(order)-1]
			}
		}
	}
	next()
}

func TestEveryOrderOfAFewKeys(t *testing.T) {
	keys := []api.Key{{Time: 1, Seq: 2}, {Time: -1, Seq: 9}, {Time: 1, Seq: 1}, {Time: 1, Seq: -1}, lowest, {Time: 0, Seq: most}, {Time: most, Seq: least}, {}}
	for _, degree := range []int{2, 3} {
		var want []told
		everyOrder(len(keys), func(order []int) {
			p := newPair(t, degree)
			for _, at := range order {
				p.put(keys[at], at)
			}
			p.nodes()
			l := listed(p.x, lowest, highest)
			if want == nil {
				want = l
			}
			if !slices.Equal(l, want) || len(l) != len(keys) {
				t.Fatalf("%v: %v, not %v", order, l, want)
			}
		})
	}
}

// The last value under each key is the same, whatever else was put there ahead of it.
func TestTheLastValuesAreTold(t *testing.T) {
	keys := keysInOrder(70)
	for _, degree := range []int{2, 4, 16} {
		for name, order := range orders(keys) {
			p := newPair(t, degree)
			p.puts(order...)
			p.puts(order[:50]...)
			for i, k := range keys {
				p.put(k, 10*i)
			}
			p.look()
			for i, x := range listed(p.x, lowest, highest) {
				if x != (told{keys[i], 10 * i}) {
					t.Fatalf("%s: %v, not %v", name, x, keys[i])
				}
			}
		}
	}
}

// Keys by chance, from fixed seeds, some of them several times, with Forks amid them.
func TestKeysByChance(t *testing.T) {
	for seed := range 120 {
		r := rand.New(rand.NewSource(int64(seed)))
		p := newPair(t, 2+seed%15)
		wide := 1 + r.Intn(30)
		for i := range 40 + r.Intn(400) {
			k := api.Key{Time: r.Intn(wide) - wide/2, Seq: r.Intn(wide) - wide/2}
			p.put(k, i)
			switch r.Intn(20) {
			case 0:
				p = p.fork()
			case 1:
				p.ranges(api.Key{Time: r.Intn(wide) - wide/2, Seq: r.Intn(9) - 4}, api.Key{Time: r.Intn(wide) - wide/2, Seq: r.Intn(9) - 4})
			case 2:
				p.nodes()
			}
		}
		p.look()
	}
}
