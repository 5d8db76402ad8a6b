package band_test

import (
	"math"
	"math/big"
	"math/rand"
	"slices"
	"testing"

	"outstation/api"
	"outstation/band"
)

const (
	least = math.MinInt
	most  = math.MaxInt
)

// right are numbers that a band's Dead and Quiet may be.
func right() []int {
	return []int{0, 1, 2, 5, 1000, 1<<31 - 1, 1 << 31, 1<<32 - 1, 1 << 32, 1<<40 - 1, 1 << 40}
}

// wrong are numbers that neither of them may be.
func wrong() []int {
	return []int{least, least + 1, -1<<40 - 1, -1 << 40, -1 << 32, -1 << 31, -2, -1, 1<<40 + 1, 1 << 41, 1 << 62, most - 1, most}
}

// edges are numbers at which something changes, and some between.
func edges() []int { return append(right(), wrong()...) }

// apart is the true distance of two numbers.
func apart(a, b int) *big.Int {
	d := new(big.Int).Sub(big.NewInt(int64(a)), big.NewInt(int64(b)))
	return d.Abs(d)
}

// above says whether a true number is above an int.
func above(d *big.Int, n int) bool { return d.Cmp(big.NewInt(int64(n))) > 0 }

// told says, by the chapter's three sentences, whether a value is told.
func told(b api.Band, h api.Held, p api.Point) bool {
	if !h.Has {
		return true
	}
	dead := b.Dead
	if dead < 0 {
		dead = 0
	}
	if above(apart(p.Value, h.Value), dead) {
		return true
	}
	return b.Quiet > 0 && !(p.At < h.At) && above(apart(p.At, h.At), b.Quiet-1)
}

// allTold are the points of a list that are told, by the chapter's words.
func allTold(b api.Band, l []api.Point) []api.Point {
	var out []api.Point
	var h api.Held
	for _, p := range l {
		if told(b, h, p) {
			h.Has, h.Value, h.At = true, p.Value, p.At
			out = append(out, p)
		}
	}
	return out
}

// checkStep holds an answer of Step, given twice, against the chapter's words.
func checkStep(t *testing.T, b api.Band, h api.Held, p api.Point) {
	t.Helper()
	want, yes := h, told(b, h, p)
	if yes {
		want = api.Held{Has: true, Value: p.Value, At: p.At}
	}
	for range 2 {
		if got, is := band.Step(b, h, p); got != want || is != yes {
			t.Fatalf("Step(%v, %v, %v) is %v, %v, not %v, %v", b, h, p, got, is, want, yes)
		}
	}
}

// points are points of values and times, one behind the other.
func points(l ...int) []api.Point {
	var out []api.Point
	for i := 0; i < len(l); i += 2 {
		out = append(out, api.Point{Value: l[i], At: l[i+1]})
	}
	return out
}

// walk is a list of n points whose values and times go by small steps from somewhere; if fall is false, its times never fall.
func walk(r *rand.Rand, n int, fall bool) []api.Point {
	var out []api.Point
	p := api.Point{Value: r.Intn(100) - 50, At: r.Intn(100) - 50}
	for range n {
		out = append(out, p)
		p.Value += r.Intn(9) - 4
		p.At += r.Intn(4)
		if fall {
			p.At -= r.Intn(4)
		}
	}
	return out
}

// wild is a list of n points at the edges, and near them; if fall is false, its times never fall.
func wild(r *rand.Rand, n int, fall bool) []api.Point {
	var out []api.Point
	for range n {
		out = append(out, api.Point{Value: pick(r), At: pick(r)})
	}
	if !fall {
		slices.SortStableFunc(out, func(a, b api.Point) int {
			if a.At < b.At {
				return -1
			}
			if a.At > b.At {
				return 1
			}
			return 0
		})
	}
	return out
}

// pick is one of the edges, or a number near it.
func pick(r *rand.Rand) int {
	e := edges()
	return e[r.Intn(len(e))] + r.Intn(3) - 1
}

// near is a number near 0, most often above it.
func near(r *rand.Rand) int { return r.Intn(12) - 2 }

// someBands are bands near 0 and at the edges, also such as Check refuses.
func someBands(r *rand.Rand) []api.Band {
	return []api.Band{
		{}, {Dead: 1}, {Quiet: 1}, {Dead: -1, Quiet: -1},
		{Dead: near(r), Quiet: near(r)},
		{Dead: near(r), Quiet: pick(r)},
		{Dead: pick(r), Quiet: near(r)},
		{Dead: pick(r), Quiet: pick(r)},
	}
}

// someLists are lists of up to some 20 points; if fall is false, their times never fall.
func someLists(r *rand.Rand, fall bool) [][]api.Point {
	return [][]api.Point{walk(r, r.Intn(20), fall), walk(r, r.Intn(20), fall), wild(r, r.Intn(8), fall)}
}

// each calls a function with many bands and lists, the same ones in every run.
func each(fall bool, f func(b api.Band, l []api.Point)) {
	r := rand.New(rand.NewSource(7))
	for range 1500 {
		for _, b := range someBands(r) {
			for _, l := range someLists(r, fall) {
				f(b, l)
			}
		}
	}
}

// heldBehind is what is held behind points that were told.
func heldBehind(l []api.Point) api.Held {
	if len(l) == 0 {
		return api.Held{}
	}
	last := l[len(l)-1]
	return api.Held{Has: true, Value: last.Value, At: last.At}
}

// P7.1

func TestCheckTakesRightBands(t *testing.T) {
	for _, dead := range right() {
		for _, quiet := range right() {
			if got := band.Check(api.Band{Dead: dead, Quiet: quiet}); got != 0 {
				t.Errorf("Check of %d, %d is %d", dead, quiet, got)
			}
		}
	}
}

func TestCheckRefusesWrongBands(t *testing.T) {
	for _, w := range wrong() {
		for _, other := range edges() {
			for _, b := range []api.Band{{Dead: w, Quiet: other}, {Dead: other, Quiet: w}} {
				if got := band.Check(b); got != 26 {
					t.Errorf("Check of %v is %d", b, got)
				}
			}
		}
	}
}

// P7.2

func TestStepOfWords(t *testing.T) {
	held := func(value, at int) api.Held { return api.Held{Has: true, Value: value, At: at} }
	for _, x := range []struct {
		name string
		b    api.Band
		h    api.Held
		p    api.Point
		want api.Held
		told bool
	}{
		{"the ends of an int", api.Band{}, held(least, 0), api.Point{Value: most}, held(most, 0), true},
		{"the ends of an int the other way round", api.Band{}, held(most, 0), api.Point{Value: least}, held(least, 0), true},
		{"the ends of an int, the greatest Dead", api.Band{Dead: most}, held(least, 0), api.Point{Value: most}, held(most, 0), true},
		{"the ends of an int the other way round, the greatest Dead", api.Band{Dead: most}, held(most, 0), api.Point{Value: least}, held(least, 0), true},
		{"a distance of the greatest int", api.Band{Dead: most}, held(-1, 0), api.Point{Value: most - 1}, held(-1, 0), false},
		{"one more than the greatest int", api.Band{Dead: most}, held(-1, 0), api.Point{Value: most}, held(most, 0), true},
		{"one more than the greatest int, below", api.Band{Dead: most}, held(0, 0), api.Point{Value: least}, held(least, 0), true},
		{"a time that fell", api.Band{Quiet: 5}, held(1, 9), api.Point{Value: 1, At: 3}, held(1, 9), false},
		{"a time that fell by all there is", api.Band{Quiet: 5}, held(1, most), api.Point{Value: 1, At: least}, held(1, most), false},
		{"a time that rose by all there is", api.Band{Quiet: most}, held(1, least), api.Point{Value: 1, At: most}, held(1, most), true},
		{"just Dead, above", api.Band{Dead: 5}, held(10, 0), api.Point{Value: 15, At: 1}, held(10, 0), false},
		{"one more, above", api.Band{Dead: 5}, held(10, 0), api.Point{Value: 16, At: 1}, held(16, 1), true},
		{"just Dead, below", api.Band{Dead: 5}, held(10, 0), api.Point{Value: 5, At: 1}, held(10, 0), false},
		{"one more, below", api.Band{Dead: 5}, held(10, 0), api.Point{Value: 4, At: 1}, held(4, 1), true},
		{"Dead below 0, the same", api.Band{Dead: -5}, held(3, 4), api.Point{Value: 3, At: 9}, held(3, 4), false},
		{"Dead below 0, one more", api.Band{Dead: -5}, held(3, 4), api.Point{Value: 4, At: 9}, held(4, 9), true},
		{"the least Dead, the same", api.Band{Dead: least}, held(3, 4), api.Point{Value: 3, At: 9}, held(3, 4), false},
		{"the least Dead, one less", api.Band{Dead: least}, held(3, 4), api.Point{Value: 2, At: 9}, held(2, 9), true},
		{"just Quiet ago", api.Band{Dead: 5, Quiet: 3}, held(1, 4), api.Point{Value: 2, At: 7}, held(2, 7), true},
		{"one less than Quiet ago", api.Band{Dead: 5, Quiet: 3}, held(1, 4), api.Point{Value: 2, At: 6}, held(1, 4), false},
		{"more than Quiet ago", api.Band{Dead: 5, Quiet: 3}, held(1, 4), api.Point{Value: 1, At: 8}, held(1, 8), true},
		{"Quiet of 1 at the same time", api.Band{Quiet: 1}, held(1, 4), api.Point{Value: 1, At: 4}, held(1, 4), false},
		{"Quiet of 1, one tick ago", api.Band{Quiet: 1}, held(1, 4), api.Point{Value: 1, At: 5}, held(1, 5), true},
		{"Quiet of 0", api.Band{}, held(1, 4), api.Point{Value: 1, At: most}, held(1, 4), false},
		{"Quiet of 0 at the same time", api.Band{}, held(1, 4), api.Point{Value: 1, At: 4}, held(1, 4), false},
		{"Quiet below 0", api.Band{Quiet: -3}, held(1, 4), api.Point{Value: 1, At: 7}, held(1, 4), false},
		{"the least Quiet", api.Band{Quiet: least}, held(1, least), api.Point{Value: 1, At: most}, held(1, least), false},
		{"a value that moved while its time fell", api.Band{Dead: 1, Quiet: 3}, held(1, 9), api.Point{Value: 3, At: 2}, held(3, 2), true},
		{"nothing held", api.Band{Dead: 100, Quiet: 9}, api.Held{}, api.Point{}, held(0, 0), true},
		{"nothing held, with a value and a time", api.Band{Dead: 100}, api.Held{Value: 3, At: 4}, api.Point{Value: 3, At: 4}, held(3, 4), true},
		{"nothing held, with a later time", api.Band{Dead: most, Quiet: most}, api.Held{Value: 3, At: 40}, api.Point{Value: 5, At: 4}, held(5, 4), true},
	} {
		if got, is := band.Step(x.b, x.h, x.p); got != x.want || is != x.told {
			t.Errorf("%s: %v, %v", x.name, got, is)
		}
	}
}

func TestStepOfValuesAtTheEdges(t *testing.T) {
	for _, dead := range edges() {
		for _, was := range edges() {
			for _, is := range edges() {
				checkStep(t, api.Band{Dead: dead}, api.Held{Has: true, Value: was, At: 5}, api.Point{Value: is, At: 5})
			}
			for _, by := range []int{dead - 1, dead, dead + 1} { // these wrap round, which spoils nothing
				checkStep(t, api.Band{Dead: dead}, api.Held{Has: true, Value: was}, api.Point{Value: was + by})
				checkStep(t, api.Band{Dead: dead}, api.Held{Has: true, Value: was}, api.Point{Value: was - by})
			}
		}
	}
}

func TestStepOfTimesAtTheEdges(t *testing.T) {
	for _, quiet := range edges() {
		for _, was := range edges() {
			for _, is := range edges() {
				checkStep(t, api.Band{Dead: 2, Quiet: quiet}, api.Held{Has: true, Value: 5, At: was}, api.Point{Value: 6, At: is})
			}
			for _, by := range []int{quiet - 1, quiet, quiet + 1} {
				checkStep(t, api.Band{Quiet: quiet}, api.Held{Has: true, At: was}, api.Point{At: was + by})
				checkStep(t, api.Band{Quiet: quiet}, api.Held{Has: true, At: was}, api.Point{At: was - by})
			}
		}
	}
}

func TestStepOfAnyThree(t *testing.T) {
	r := rand.New(rand.NewSource(72))
	for range 40000 {
		h := api.Held{Has: r.Intn(8) > 0, Value: pick(r), At: pick(r)}
		b := api.Band{Dead: pick(r), Quiet: pick(r)}
		checkStep(t, b, h, api.Point{Value: pick(r), At: pick(r)})
		h.Value, h.At = near(r), near(r)
		checkStep(t, b, h, api.Point{Value: near(r), At: near(r)})
		checkStep(t, api.Band{Dead: near(r), Quiet: near(r)}, h, api.Point{Value: near(r), At: near(r)})
	}
}

// P7.3

func TestRunOfWords(t *testing.T) {
	for _, x := range []struct {
		name     string
		b        api.Band
		in, want []api.Point
	}{
		{"the chapter's values", api.Band{Dead: 5}, points(10, 0, 12, 1, 15, 2, 16, 3, 10, 4), points(10, 0, 16, 3, 10, 4)},
		{"the chapter's times", api.Band{Dead: 5, Quiet: 3}, points(1, 0, 1, 2, 1, 3, 1, 5, 1, 6), points(1, 0, 1, 3, 1, 6)},
		{"no list", api.Band{Dead: 5}, nil, nil},
		{"an empty list", api.Band{Dead: 5}, []api.Point{}, nil},
		{"one point", api.Band{Dead: 1 << 40, Quiet: 1 << 40}, points(7, 9), points(7, 9)},
		{"one point that is 0", api.Band{Dead: 1 << 40}, points(0, 0), points(0, 0)},
		{"all told", api.Band{}, points(1, 0, 2, 0, 1, 0, 0, 9), points(1, 0, 2, 0, 1, 0, 0, 9)},
		{"all told for their times", api.Band{Dead: 9, Quiet: 1}, points(1, 0, 1, 1, 1, 3), points(1, 0, 1, 1, 1, 3)},
		{"none but the first", api.Band{Dead: 3}, points(1, 0, 4, 1, -2, 2, 1, 3), points(1, 0)},
		{"small steps add up", api.Band{Dead: 2}, points(0, 0, 1, 1, 2, 2, 3, 3, 4, 4, 5, 5, 6, 6), points(0, 0, 3, 3, 6, 6)},
		{"times that fall", api.Band{Dead: 9, Quiet: 1}, points(5, 9, 6, 3, 7, 9, 7, 10), points(5, 9, 7, 10)},
		{"a band that is refused", api.Band{Dead: -1, Quiet: -1}, points(1, 0, 1, 1, 2, 2, 2, 3), points(1, 0, 2, 2)},
		{"the ends of an int", api.Band{Dead: most}, points(least, 0, most, 1, least, 2), points(least, 0, most, 1, least, 2)},
	} {
		for range 2 {
			if got := band.Run(x.b, x.in); !slices.Equal(got, x.want) {
				t.Errorf("%s: %v", x.name, got)
			}
		}
	}
}

func TestRunOfManyLists(t *testing.T) {
	each(true, func(b api.Band, l []api.Point) {
		if got, want := band.Run(b, l), allTold(b, l); !slices.Equal(got, want) {
			t.Fatalf("Run(%v, %v) is %v, not %v", b, l, got, want)
		}
	})
}

func TestRunOfALongList(t *testing.T) {
	l := walk(rand.New(rand.NewSource(73)), 100000, false)
	for _, b := range []api.Band{{}, {Dead: 3}, {Dead: 3, Quiet: 5}, {Dead: -1, Quiet: 1}} {
		if got, want := band.Run(b, l), allTold(b, l); !slices.Equal(got, want) {
			t.Errorf("%v: %d are told, not %d, or others", b, len(got), len(want))
		}
	}
}

// P7.4

func TestNoPointIsFarFromTheLastOneTold(t *testing.T) {
	each(true, func(b api.Band, l []api.Point) {
		for i, p := range l {
			last := heldBehind(band.Run(b, l[:i+1]))
			if !last.Has || above(apart(p.Value, last.Value), max(b.Dead, 0)) {
				t.Fatalf("%v of %v: behind point %d the last one told is %v", b, l, i, last)
			}
		}
	})
}

func TestTheLastPointToldIsNotLongAgo(t *testing.T) {
	each(false, func(b api.Band, l []api.Point) {
		for i, p := range l {
			last := heldBehind(band.Run(b, l[:i+1]))
			if b.Quiet > 0 && above(apart(p.At, last.At), b.Quiet-1) {
				t.Fatalf("%v of %v: behind point %d the last one told is %v", b, l, i, last)
			}
		}
	})
}

// P7.5

func TestPointsToldAreFarApart(t *testing.T) {
	each(true, func(b api.Band, l []api.Point) {
		b.Quiet = min(b.Quiet, 0)
		got := band.Run(b, l)
		for i := 1; i < len(got); i++ {
			if !above(apart(got[i].Value, got[i-1].Value), max(b.Dead, 0)) {
				t.Fatalf("Run(%v, %v) is %v", b, l, got)
			}
		}
	})
}

func TestTheFirstPointIsTold(t *testing.T) {
	each(true, func(b api.Band, l []api.Point) {
		if got := band.Run(b, l); len(l) > 0 && (len(got) == 0 || got[0] != l[0]) {
			t.Fatalf("Run(%v, %v) is %v", b, l, got)
		}
	})
}

// P7.6

func TestRunInParts(t *testing.T) {
	each(true, func(b api.Band, l []api.Point) {
		whole := band.Run(b, l)
		for cut := 0; cut <= len(l); cut++ {
			got := band.Run(b, l[:cut])
			h := heldBehind(got)
			for _, p := range l[cut:] {
				next, is := band.Step(b, h, p)
				if is {
					got = append(got, p)
				}
				h = next
			}
			if !slices.Equal(got, whole) || h != heldBehind(whole) {
				t.Fatalf("%v of %v, cut at %d: %v and then %v, not %v", b, l, cut, got, h, whole)
			}
		}
	})
}

// R3

// roomy is a list with spare room behind its end, and all of that memory.
func roomy(l []api.Point) ([]api.Point, []api.Point) {
	all := slices.Clone(l)
	for i := range 40 {
		all = append(all, api.Point{Value: 1000 * i, At: -i})
	}
	return all[:len(l)], all
}

func TestRunLeavesItsListAsItIs(t *testing.T) {
	each(true, func(b api.Band, l []api.Point) {
		in, all := roomy(l)
		kept := slices.Clone(all)
		band.Run(b, in)
		if !slices.Equal(all, kept) {
			t.Fatalf("Run(%v, %v) changed it", b, l)
		}
	})
}

func TestRunSharesNothing(t *testing.T) {
	each(true, func(b api.Band, l []api.Point) {
		in, all := roomy(l)
		kept := slices.Clone(all)
		got, other := band.Run(b, in), band.Run(b, in)
		want := slices.Clone(other)
		got = got[:cap(got)]
		for i := range got {
			got[i] = api.Point{Value: -77, At: -77}
		}
		if !slices.Equal(all, kept) || !slices.Equal(other, want) {
			t.Fatalf("the answer of Run(%v, %v) shares memory", b, l)
		}
		for i := range all {
			all[i] = api.Point{Value: -78, At: -78}
		}
		if !slices.Equal(other, want) {
			t.Fatalf("the answer of Run(%v, %v) shares its list's memory", b, l)
		}
	})
}
