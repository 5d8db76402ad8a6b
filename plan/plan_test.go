package plan_test

import (
	"math"
	"math/rand"
	"reflect"
	"slices"
	"strconv"
	"testing"

	"outstation/api"
	"outstation/plan"
	"outstation/reply"
	"outstation/scale"
	"outstation/tags"
)

const (
	least = math.MinInt
	most  = math.MaxInt
	top   = 1 << 40
)

// widthOf is, by the chapter's words, how many addresses a right tag has.
func widthOf(x api.Tag) int {
	if x.Scale.Wide {
		return 2
	}
	return 1
}

// mostOf is, by the chapter's words, how many addresses a poll of a Kind may have.
func mostOf(kind int) int { return []int{0, 2000, 2000, 125, 125}[kind] }

// reads are, by the chapter's words, the first address of tags that share a poll, and the first one behind it.
func reads(l []api.Tag, places []int) (int, int) {
	first, behind := l[places[0]].Addr, 0
	for _, at := range places {
		first, behind = min(first, l[at].Addr), max(behind, l[at].Addr+widthOf(l[at]))
	}
	return first, behind
}

// mayJoin says, by the chapter's words, whether a tag joins the tags of the poll that was made last.
func mayJoin(l []api.Tag, places []int, at int) bool {
	x, y := l[places[0]], l[at]
	if x.Unit != y.Unit || x.Every != y.Every || x.Kind != y.Kind {
		return false
	}
	if _, behind := reads(l, places); y.Addr > behind+8 {
		return false
	}
	first, behind := reads(l, append(slices.Clone(places), at))
	return behind-first <= mostOf(x.Kind)
}

// ordered are, by the chapter's words, the places of a table's tags in the order of polling.
func ordered(l []api.Tag) []int {
	var keys [][]int
	for i, x := range l {
		keys = append(keys, []int{x.Unit, x.Every, x.Kind, x.Addr, i})
	}
	slices.SortFunc(keys, slices.Compare[[]int])
	var out []int
	for _, key := range keys {
		out = append(out, key[4])
	}
	return out
}

// pollsOf are, by the chapter's words, the polls of a table.
func pollsOf(l []api.Tag) []api.Poll {
	var groups [][]int
	for _, at := range ordered(l) {
		if n := len(groups); n > 0 && mayJoin(l, groups[n-1], at) {
			groups[n-1] = append(groups[n-1], at)
		} else {
			groups = append(groups, []int{at})
		}
	}
	var out []api.Poll
	for _, places := range groups {
		x := l[places[0]]
		first, behind := reads(l, places)
		out = append(out, api.Poll{Unit: x.Unit, Kind: x.Kind, Addr: first, Count: behind - first, Every: x.Every, Tags: places})
	}
	return out
}

// askOf is, by the chapter's words, a poll's request.
func askOf(p api.Poll) (api.Ask, api.Errno) {
	switch {
	case p.Kind != 1 && p.Kind != 2 && p.Kind != 3 && p.Kind != 4:
		return api.Ask{}, 28
	case p.Addr < 0 || p.Addr > 65535:
		return api.Ask{}, 21
	case p.Count < 1 || p.Count > mostOf(p.Kind):
		return api.Ask{}, 22
	case p.Addr+p.Count > 65536:
		return api.Ask{}, 21
	}
	return api.Ask{Code: p.Kind, Addr: p.Addr, Count: p.Count}, 0
}

// means is, by the chapter's words, what a tag is worth where an answer begins at the address from.
func means(x api.Tag, from int, r api.Reply) int {
	if x.Kind < 3 {
		return map[bool]int{true: 1}[r.On[x.Addr-from]]
	}
	var words []uint16
	for i := range widthOf(x) {
		words = append(words, r.Set[x.Addr-from+i])
	}
	raw, _ := scale.Raw(x.Scale, words)
	v, _ := scale.Value(x.Scale, raw)
	return v
}

// valuesOf is, by the chapter's words, what an answer to a poll says of its tags.
func valuesOf(l []api.Tag, p api.Poll, r api.Reply) ([]int, api.Errno) {
	if errno, _ := tags.CheckAll(l); errno != 0 {
		return nil, errno
	}
	a, errno := askOf(p)
	if errno != 0 {
		return nil, errno
	}
	if errno := reply.Check(a, r); errno != 0 {
		return nil, errno
	}
	if r.Exc != 0 {
		return nil, 12
	}
	var out []int
	for _, at := range p.Tags {
		if at < 0 || at > len(l)-1 || l[at].Unit != p.Unit || l[at].Kind != p.Kind || l[at].Addr < p.Addr || l[at].Addr+widthOf(l[at])-1 > p.Addr+p.Count-1 {
			return nil, 3
		}
		out = append(out, means(l[at], p.Addr, r))
	}
	return out, 0
}

// tag is a right tag without a name: of unit 1, of one holding register, polled each five ticks.
func tag(addr int, turns ...func(x *api.Tag)) api.Tag {
	x := api.Tag{Unit: 1, Kind: 3, Addr: addr, Every: 5, Scale: api.Scale{Mul: 1, Div: 1}}
	for _, turn := range turns {
		turn(&x)
	}
	return x
}

func wide(x *api.Tag)   { x.Scale.Wide = true }
func coil(x *api.Tag)   { x.Kind = 1 }
func input(x *api.Tag)  { x.Kind = 2 }
func reg(x *api.Tag)    { x.Kind = 4 }
func second(x *api.Tag) { x.Unit = 2 }
func often(x *api.Tag)  { x.Every = 4 }
func seldom(x *api.Tag) { x.Every = 6 }

// table is tags with names, so that they stand in the order in which they are told.
func table(l ...api.Tag) []api.Tag {
	out := slices.Clone(l)
	for i := range out {
		out[i].Name = "tag." + strconv.Itoa(1000+i)
	}
	return out
}

// poll is what a poll of unit 1, of holding registers, each five ticks, reads from an address on, and of which tags.
func poll(addr, count int, places ...int) api.Poll {
	return api.Poll{Unit: 1, Kind: 3, Addr: addr, Count: count, Every: 5, Tags: places}
}

// of is a poll with another unit, Kind and Every.
func of(unit, kind, every int, p api.Poll) api.Poll {
	p.Unit, p.Kind, p.Every = unit, kind, every
	return p
}

// same says whether two polls are alike.
func same(a, b api.Poll) bool {
	return a.Unit == b.Unit && a.Kind == b.Kind && a.Addr == b.Addr && a.Count == b.Count && a.Every == b.Every && slices.Equal(a.Tags, b.Tags)
}

// roomy is a list with the same things and with others in the spare room behind its end.
func roomy[E any](l []E, spare ...E) []E {
	out := append(slices.Clone(l), spare...)
	return out[:len(l)]
}

// spareTags are what stands behind the end of a list of tags that is handed in.
func spareTags() []api.Tag {
	return []api.Tag{tag(0, second), {}, tag(65534, wide)}
}

// checkPolls holds what Plan, called twice, says of a list against polls or an error, and sees that it changes and keeps nothing of the list.
func checkPolls(t *testing.T, l []api.Tag, want []api.Poll, errno api.Errno) {
	t.Helper()
	given := roomy(l, spareTags()...)
	before := slices.Clone(given[:cap(given)])
	var got [2][]api.Poll
	for i := range got {
		p, e := plan.Plan(given)
		if e != errno || !slices.EqualFunc(p, want, same) {
			t.Fatalf("Plan of %v is %v, %d, not %v, %d", l, p, e, want, errno)
		}
		got[i] = p
	}
	if !slices.Equal(before, given[:cap(given)]) {
		t.Fatalf("Plan changed %v", l)
	}
	clear(given[:cap(given)])
	for _, p := range got[0] {
		clear(p.Tags[:cap(p.Tags)])
	}
	clear(got[0][:cap(got[0])])
	if !slices.EqualFunc(got[1], want, same) {
		t.Fatalf("Plan of %v shares memory", l)
	}
}

// checkPlan holds what Plan says of a list, a table or none, against the chapter's words.
func checkPlan(t *testing.T, l []api.Tag) {
	t.Helper()
	if errno, _ := tags.CheckAll(l); errno != 0 {
		checkPolls(t, l, nil, errno)
		return
	}
	checkPolls(t, l, pollsOf(l), 0)
}

// P10.1

func TestPlanOfWords(t *testing.T) {
	for _, x := range []struct {
		name string
		l    []api.Tag
		want []api.Poll
	}{
		{"no list", nil, nil},
		{"an empty list", []api.Tag{}, nil},
		{"one tag", table(tag(7)), []api.Poll{poll(7, 1, 0)}},
		{"one wide tag", table(tag(7, wide)), []api.Poll{poll(7, 2, 0)}},
		{"one coil", table(tag(7, coil)), []api.Poll{of(1, 1, 5, poll(7, 1, 0))}},
		{"one input", table(tag(7, input)), []api.Poll{of(1, 2, 5, poll(7, 1, 0))}},
		{"one register", table(tag(7, reg, wide)), []api.Poll{of(1, 4, 5, poll(7, 2, 0))}},
		{"the document's first one", table(tag(0), tag(1), tag(10)), []api.Poll{poll(0, 11, 0, 1, 2)}},
		{"the document's second one", table(tag(0), tag(1), tag(11)), []api.Poll{poll(0, 2, 0, 1), poll(11, 1, 2)}},
		{"the document's third one", table(tag(5), tag(0), tag(2)), []api.Poll{poll(0, 6, 1, 2, 0)}},
		{"the document's fourth one", table(tag(0, wide), tag(1), tag(1)), []api.Poll{poll(0, 2, 0, 1, 2)}},
		{"the document's fifth one", table(tag(0), tag(1, second), tag(2)), []api.Poll{poll(0, 3, 0, 2), of(2, 3, 5, poll(1, 1, 1))}},

		{"alike", table(tag(4), tag(4), tag(4)), []api.Poll{poll(4, 1, 0, 1, 2)}},
		{"another unit", table(tag(4), tag(4, second)), []api.Poll{poll(4, 1, 0), of(2, 3, 5, poll(4, 1, 1))}},
		{"another unit, turned", table(tag(4, second), tag(4)), []api.Poll{poll(4, 1, 1), of(2, 3, 5, poll(4, 1, 0))}},
		{"more often", table(tag(4), tag(4, often)), []api.Poll{of(1, 3, 4, poll(4, 1, 1)), poll(4, 1, 0)}},
		{"more seldom", table(tag(4), tag(4, seldom)), []api.Poll{poll(4, 1, 0), of(1, 3, 6, poll(4, 1, 1))}},
		{"more often, turned", table(tag(4, often), tag(4)), []api.Poll{of(1, 3, 4, poll(4, 1, 0)), poll(4, 1, 1)}},
		{"another Kind above", table(tag(4), tag(4, reg)), []api.Poll{poll(4, 1, 0), of(1, 4, 5, poll(4, 1, 1))}},
		{"another Kind below", table(tag(4), tag(4, input)), []api.Poll{of(1, 2, 5, poll(4, 1, 1)), poll(4, 1, 0)}},
		{"coils and inputs", table(tag(4, input), tag(4, coil)), []api.Poll{of(1, 1, 5, poll(4, 1, 1)), of(1, 2, 5, poll(4, 1, 0))}},
		{"another address, turned", table(tag(5), tag(4)), []api.Poll{poll(4, 2, 1, 0)}},

		{"the unit ahead of Every", table(tag(4, second, often), tag(4)), []api.Poll{poll(4, 1, 1), of(2, 3, 4, poll(4, 1, 0))}},
		{"the unit ahead of the Kind", table(tag(4, second, coil), tag(4)), []api.Poll{poll(4, 1, 1), of(2, 1, 5, poll(4, 1, 0))}},
		{"the unit ahead of the address", table(tag(3, second), tag(4)), []api.Poll{poll(4, 1, 1), of(2, 3, 5, poll(3, 1, 0))}},
		{"Every ahead of the Kind", table(tag(4, coil), tag(4, often)), []api.Poll{of(1, 3, 4, poll(4, 1, 1)), of(1, 1, 5, poll(4, 1, 0))}},
		{"Every ahead of the address", table(tag(4), tag(5, often)), []api.Poll{of(1, 3, 4, poll(5, 1, 1)), poll(4, 1, 0)}},
		{"the Kind ahead of the address", table(tag(4, reg), tag(5)), []api.Poll{poll(5, 1, 1), of(1, 4, 5, poll(4, 1, 0))}},
		{"the address ahead of the place", table(tag(6), tag(5), tag(6), tag(5)), []api.Poll{poll(5, 2, 1, 3, 0, 2)}},
		{"the unit behind which there is another one with the same Every", table(tag(0), tag(1, second), tag(2), tag(3, second), tag(4, often)), []api.Poll{of(1, 3, 4, poll(4, 1, 4)), poll(0, 3, 0, 2), of(2, 3, 5, poll(1, 3, 1, 3))}},

		{"narrow behind wide", table(tag(4, wide), tag(4)), []api.Poll{poll(4, 2, 0, 1)}},
		{"wide behind narrow", table(tag(4), tag(4, wide)), []api.Poll{poll(4, 2, 0, 1)}},
		{"wide on the second half of a wide one", table(tag(4, wide), tag(5, wide)), []api.Poll{poll(4, 3, 0, 1)}},
		{"within, at the first, the last and another address", table(tag(0), tag(8), tag(0), tag(8), tag(7, wide), tag(3)), []api.Poll{poll(0, 9, 0, 2, 5, 4, 1, 3)}},
		{"behind a poll that a narrow tag within did not shorten", table(tag(0, wide), tag(0), tag(10)), []api.Poll{poll(0, 11, 0, 1, 2)}},
		{"nor made longer", table(tag(0, wide), tag(0), tag(11)), []api.Poll{poll(0, 2, 0, 1), poll(11, 1, 2)}},

		{"the last address", table(tag(65535)), []api.Poll{poll(65535, 1, 0)}},
		{"the last two addresses", table(tag(65534, wide)), []api.Poll{poll(65534, 2, 0)}},
		{"the last addresses", table(tag(65535), tag(65534, wide), tag(65526)), []api.Poll{poll(65526, 10, 2, 1, 0)}},
		{"the last address by itself", table(tag(65535, coil), tag(65525, coil)), []api.Poll{of(1, 1, 5, poll(65525, 1, 1)), of(1, 1, 5, poll(65535, 1, 0))}},
		{"the last unit and the longest time", table(tag(9, func(x *api.Tag) { x.Unit, x.Every = 247, 1<<20 })), []api.Poll{of(247, 3, 1<<20, poll(9, 1, 0))}},
	} {
		t.Run(x.name, func(t *testing.T) {
			checkPolls(t, x.l, x.want, 0)
			checkPlan(t, x.l)
		})
	}
}

// bases are, of each Kind, tags that make one poll of six addresses from 100 on, but for the first ones, that make one of one or two.
func bases(kind int) [][]api.Tag {
	as := func(x *api.Tag) { x.Kind = kind }
	out := [][]api.Tag{{tag(100, as)}, {tag(105, as), tag(100, as)}, {tag(100, as), tag(105, as), tag(102, as)}}
	if kind > 2 {
		out = append(out, []api.Tag{tag(100, as, wide)}, []api.Tag{tag(104, as, wide), tag(100, as)}, []api.Tag{tag(100, as, wide), tag(104, as, wide), tag(105, as)})
	}
	return out
}

// nexts are, of each Kind, the tags that begin at an address.
func nexts(kind, addr int) []api.Tag {
	as := func(x *api.Tag) { x.Kind = kind }
	if kind < 3 {
		return []api.Tag{tag(addr, as)}
	}
	return []api.Tag{tag(addr, as), tag(addr, as, wide)}
}

func TestPlanOfEachGap(t *testing.T) {
	for kind := 1; kind <= 4; kind++ {
		for _, base := range bases(kind) {
			ahead := pollsOf(table(base...))
			behind := ahead[0].Addr + ahead[0].Count
			for gap := range 13 {
				for _, x := range nexts(kind, behind+gap) {
					l := table(append(slices.Clone(base), x)...)
					own := of(1, kind, 5, poll(x.Addr, widthOf(x), len(base)))
					joined := ahead[0]
					joined.Count += gap + widthOf(x)
					joined.Tags = append(slices.Clone(joined.Tags), len(base))
					if gap <= 8 {
						checkPolls(t, l, []api.Poll{joined}, 0)
					} else {
						checkPolls(t, l, []api.Poll{ahead[0], own}, 0)
					}
					checkPlan(t, l)
				}
			}
		}
	}
}

func TestPlanOfTagsWithinAPoll(t *testing.T) {
	for kind := 1; kind <= 4; kind++ {
		for _, base := range bases(kind) {
			for addr := 90; addr <= 116; addr++ {
				for _, x := range nexts(kind, addr) {
					checkPlan(t, table(append(slices.Clone(base), x)...))
					checkPlan(t, table(append([]api.Tag{x}, base...)...))
				}
			}
		}
	}
}

// row is tags that make one poll of n words from an address on: as few as there may be.
func row(from, n int) []api.Tag {
	var out []api.Tag
	for addr := 0; addr < n-1; addr += 9 {
		out = append(out, tag(from+addr))
	}
	return append(out, tag(from+n-1))
}

func TestPlanOfTheLongestPolls(t *testing.T) {
	for _, x := range []struct {
		name string
		n    int
		next api.Tag
		want []int // how many addresses each poll has
	}{
		{"123 and a narrow one: 124", 123, tag(123), []int{124}},
		{"123 and a narrow one: 125", 123, tag(124), []int{125}},
		{"123 and a narrow one: 126", 123, tag(125), []int{123, 1}},
		{"123 and a wide one: 124", 123, tag(122, wide), []int{124}},
		{"123 and a wide one: 125", 123, tag(123, wide), []int{125}},
		{"123 and a wide one: 126", 123, tag(124, wide), []int{123, 2}},
		{"124 and a narrow one: 124", 124, tag(123), []int{124}},
		{"124 and a narrow one: 125", 124, tag(124), []int{125}},
		{"124 and a narrow one: 126", 124, tag(125), []int{124, 1}},
		{"124 and a wide one: 125", 124, tag(123, wide), []int{125}},
		{"124 and a wide one: 126", 124, tag(124, wide), []int{124, 2}},
		{"125 and a narrow one: 125", 125, tag(124), []int{125}},
		{"125 and a narrow one: 126", 125, tag(125), []int{125, 1}},
		{"125 and a wide one: 125", 125, tag(123, wide), []int{125}},
		{"125 and a wide one: 126", 125, tag(124, wide), []int{125, 2}},
		{"125 and a wide one: 127", 125, tag(125, wide), []int{125, 2}},
	} {
		t.Run(x.name, func(t *testing.T) {
			for _, from := range []int{0, 40, 65536 - 127} {
				next := x.next
				next.Addr += from
				l := table(append(row(from, x.n), next)...)
				p, errno := plan.Plan(l)
				var counts []int
				for i := range p {
					counts = append(counts, p[i].Count)
				}
				if errno != 0 || !slices.Equal(counts, x.want) {
					t.Errorf("from %d on: %v, %d", from, p, errno)
				}
				if n := len(x.want); n == 2 && (p[1].Addr != next.Addr || !slices.Equal(p[1].Tags, []int{len(l) - 1})) {
					t.Errorf("from %d on: %v", from, p)
				}
				checkPlan(t, l)
			}
		})
	}
}

func TestPlanOfWhatAWideTagAheadTakesWithIt(t *testing.T) {
	// The wide one stands ahead of the narrow one at the same address here: the poll of 118 would have 126 words with it, so that both are in one of their own.
	l := table(tag(0), tag(9), tag(18), tag(27), tag(36), tag(45), tag(54), tag(63), tag(72), tag(81), tag(90), tag(99), tag(108), tag(117), tag(124, wide), tag(124))
	checkPolls(t, l, []api.Poll{poll(0, 118, 0, 1, 2, 3, 4, 5, 6, 7, 8, 9, 10, 11, 12, 13), poll(124, 2, 14, 15)}, 0)
	// Behind a poll that was made, none may join the one ahead of that any more.
	l = table(append(row(0, 124), tag(124, wide), tag(124))...)
	n := len(l)
	p, errno := plan.Plan(l)
	if errno != 0 || len(p) != 2 || p[0].Count != 124 || !same(p[1], poll(124, 2, n-2, n-1)) {
		t.Error(p, errno)
	}
	checkPlan(t, l)
}

func TestPlanNearTheLongestPolls(t *testing.T) {
	for n := 110; n <= 125; n++ {
		for addr := 105; addr <= 140; addr++ {
			for _, x := range nexts(3, addr) {
				checkPlan(t, table(append(row(0, n), x)...))
				checkPlan(t, table(append([]api.Tag{x}, row(0, n)...)...))
			}
		}
	}
}

func TestPlanOfBitsInALongRow(t *testing.T) {
	// So many bits as a table's tags reach are far from MaxBits, and far more than MaxWords.
	for _, kind := range []int{1, 2} {
		var l []api.Tag
		var places []int
		for i := range 64 {
			l = append(l, of9(i, kind))
			places = append(places, i)
		}
		checkPolls(t, table(l...), []api.Poll{of(1, kind, 5, poll(0, 568, places...))}, 0)
		for n := range 65 {
			checkPlan(t, table(l[:n]...))
		}
		l[30].Addr++
		checkPolls(t, table(l...), []api.Poll{of(1, kind, 5, poll(0, 262, places[:30]...)), of(1, kind, 5, poll(271, 297, places[30:]...))}, 0)
	}
}

// of9 is the tag i of a row in which there are eight addresses between each one and the next.
func of9(i, kind int) api.Tag { return tag(9*i, func(x *api.Tag) { x.Kind = kind }) }

func TestPlanOfARowOfWordsThatIsTooLong(t *testing.T) {
	for _, kind := range []int{3, 4} {
		var l []api.Tag
		for i := range 64 {
			l = append(l, of9(i, kind))
		}
		var want []api.Poll
		for at := 0; at < 64; at += 14 {
			var places []int
			for i := at; i < min(at+14, 64); i++ {
				places = append(places, i)
			}
			want = append(want, of(1, kind, 5, poll(9*at, 9*len(places)-8, places...)))
		}
		checkPolls(t, table(l...), want, 0)
		for n := range 65 {
			checkPlan(t, table(l[:n]...))
		}
	}
}

func TestPlanOfSixtyFourTags(t *testing.T) {
	var alike, back, apart, units []api.Tag
	for i := range 64 {
		alike = append(alike, tag(3))
		back = append(back, tag(63-i))
		apart = append(apart, tag(100*i))
		units = append(units, tag(0, func(x *api.Tag) { x.Unit = 247 - i%3 }))
	}
	for _, l := range [][]api.Tag{alike, back, apart, units} {
		checkPlan(t, table(l...))
	}
	if p, errno := plan.Plan(table(alike...)); errno != 0 || len(p) != 1 || p[0].Count != 1 || len(p[0].Tags) != 64 {
		t.Error(p, errno)
	}
	if p, errno := plan.Plan(table(back...)); errno != 0 || len(p) != 1 || p[0].Count != 64 || p[0].Tags[0] != 63 || p[0].Tags[63] != 0 {
		t.Error(p, errno)
	}
	if p, errno := plan.Plan(table(apart...)); errno != 0 || len(p) != 64 {
		t.Error(p, errno)
	}
	if p, errno := plan.Plan(table(units...)); errno != 0 || len(p) != 3 || p[0].Unit != 245 || len(p[0].Tags) != 21 || p[2].Unit != 247 || len(p[2].Tags) != 22 {
		t.Error(p, errno)
	}
}

// choices are the right tags out of some units, times, Kinds and addresses, wide ones too.
func choices(units, everies, kinds, addrs []int) []api.Tag {
	var out []api.Tag
	for _, unit := range units {
		for _, every := range everies {
			for _, kind := range kinds {
				for _, addr := range addrs {
					for _, x := range nexts(kind, addr) {
						x.Unit, x.Every = unit, every
						if errno := tags.Check(table(x)[0]); errno == 0 {
							out = append(out, x)
						}
					}
				}
			}
		}
	}
	return out
}

func TestPlanOfEachTwoTags(t *testing.T) {
	some := choices([]int{1, 2, 247}, []int{1, 2, 1 << 20}, []int{1, 2, 3, 4}, []int{0, 1, 8, 9, 10, 11, 65534, 65535})
	for _, x := range some {
		for _, y := range some {
			checkPlan(t, table(x, y))
		}
	}
}

func TestPlanOfEachThreeTags(t *testing.T) {
	some := choices([]int{1, 2}, []int{1, 2}, []int{2, 3}, []int{0, 1, 10})
	for _, x := range some {
		for _, y := range some {
			for _, z := range some {
				checkPlan(t, table(x, y, z))
			}
		}
	}
}

// faults are what makes a tag wrong, each in one way.
func faults() []struct {
	turn func(x *api.Tag)
	want api.Errno
} {
	return []struct {
		turn func(x *api.Tag)
		want api.Errno
	}{
		{func(x *api.Tag) { x.Name = "1" }, 8},
		{func(x *api.Tag) { x.Unit = 248 }, 24},
		{func(x *api.Tag) { x.Unit = least }, 24},
		{func(x *api.Tag) { x.Kind = 5 }, 28},
		{func(x *api.Tag) { x.Kind = most }, 28},
		{func(x *api.Tag) { x.Addr = 65536 }, 21},
		{func(x *api.Tag) { x.Addr = most }, 21},
		{func(x *api.Tag) { x.Addr, x.Scale.Wide = 65535, true }, 21},
		{func(x *api.Tag) { x.Every = 0 }, 3},
		{func(x *api.Tag) { x.Scale.Div = 0 }, 25},
		{func(x *api.Tag) { x.Kind, x.Scale.Mul = 2, 2 }, 25},
		{func(x *api.Tag) { x.Band.Dead = -1 }, 26},
		{func(x *api.Tag) { x.Limits.Hyst = -1 }, 27},
	}
}

// wrongLists are lists that are no tables, each with the error of CheckAll.
func wrongLists() []struct {
	l    []api.Tag
	want api.Errno
} {
	type wrong = struct {
		l    []api.Tag
		want api.Errno
	}
	var out []wrong
	for _, n := range []int{1, 2, 3, 64} {
		whole := table(make([]api.Tag, n)...)
		for i := range whole {
			whole[i] = tag(i, func(x *api.Tag) { x.Name = whole[i].Name })
		}
		for _, at := range []int{0, n / 2, n - 1} {
			for _, x := range faults() {
				l := slices.Clone(whole)
				x.turn(&l[at])
				out = append(out, wrong{l, x.want})
			}
		}
		if n > 1 {
			twice, back := slices.Clone(whole), slices.Clone(whole)
			twice[n-1].Name = twice[n-2].Name
			back[n-1].Name = "a"
			out = append(out, wrong{twice, 7}, wrong{back, 29})
		}
	}
	long := table(make([]api.Tag, 65)...)
	return append(out, wrong{long, 34}, wrong{slices.Concat(long, long), 34})
}

func TestPlanOfNoTable(t *testing.T) {
	for _, x := range wrongLists() {
		checkPolls(t, x.l, nil, x.want)
		checkPlan(t, x.l)
	}
	l := table(make([]api.Tag, 65)...)
	for i := range l {
		l[i] = tag(i, func(x *api.Tag) { x.Name = l[i].Name })
	}
	checkPolls(t, l, nil, 34)
}

func TestNoTwoListsOfPlanShareMemory(t *testing.T) {
	l := table(tag(0), tag(100), tag(1), tag(101), tag(2), tag(102), tag(200), tag(3), tag(4))
	want := pollsOf(l)
	p, errno := plan.Plan(l)
	if errno != 0 || len(p) != 3 {
		t.Fatal(p, errno)
	}
	for i := range p {
		room := p[i].Tags[:cap(p[i].Tags)]
		for j := range room {
			room[j] = -9
		}
		for j := i + 1; j < len(p); j++ {
			if !same(p[j], want[j]) {
				t.Errorf("the lists %d and %d share memory: %v", i, j, p)
			}
		}
	}
	checkPolls(t, l, want, 0)
}

// P10.2

// checkAsk holds what Ask, called twice, says of a poll against the chapter's words.
func checkAsk(t *testing.T, p api.Poll) {
	t.Helper()
	want, errno := askOf(p)
	given := p
	given.Tags = roomy(p.Tags, 7, -1)
	before := slices.Clone(given.Tags[:cap(given.Tags)])
	for range 2 {
		if a, e := plan.Ask(given); e != errno || !reflect.DeepEqual(a, want) {
			t.Fatalf("Ask of %v is %v, %d, not %v, %d", p, a, e, want, errno)
		}
	}
	if !slices.Equal(before, given.Tags[:cap(given.Tags)]) {
		t.Fatalf("Ask changed %v", p)
	}
}

func TestAskOfWords(t *testing.T) {
	for _, x := range []struct {
		name              string
		kind, addr, count int
		want              api.Errno
	}{
		{"words", 3, 7, 125, 0},
		{"too many words", 3, 7, 126, 22},
		{"registers", 4, 0, 125, 0},
		{"too many registers", 4, 0, 126, 22},
		{"coils", 1, 0, 2000, 0},
		{"too many coils", 1, 0, 2001, 22},
		{"inputs", 2, 9, 1999, 0},
		{"too many inputs", 2, 9, 2001, 22},
		{"none", 3, 0, 0, 22},
		{"less than none", 3, 0, -1, 22},
		{"the Kind -1", -1, 0, 1, 28},
		{"the Kind 0", 0, 0, 1, 28},
		{"the Kind 5", 5, 0, 1, 28},
		{"the Kind 6", 6, 0, 1, 28},
		{"the Kind 15", 15, 0, 1, 28},
		{"the Kind 16", 16, 0, 1, 28},
		{"the Kind 20", 20, 0, 1, 28},
		{"the least Kind", least, 0, 1, 28},
		{"the greatest Kind", most, 0, 1, 28},
		{"the Kind ahead of the address", 5, -1, 1, 28},
		{"the Kind ahead of all", 0, -1, 0, 28},
		{"ahead of the first address", 3, -1, 1, 21},
		{"the address ahead of the count", 3, -1, 0, 21},
		{"the last address", 3, 65535, 1, 0},
		{"behind the last address", 3, 65536, 1, 21},
		{"beyond the last address", 3, 65535, 2, 21},
		{"up to the last address", 3, 65411, 125, 0},
		{"beyond it", 3, 65412, 125, 21},
		{"bits up to the last address", 1, 63536, 2000, 0},
		{"bits beyond it", 1, 63537, 2000, 21},
		{"the count ahead of both together", 3, 65535, 126, 22},
		{"the least address", 3, least, 1, 21},
		{"the greatest address", 3, most, 1, 21},
		{"the least count", 3, 0, least, 22},
		{"the greatest count", 3, 65535, most, 22},
		{"the greatest both", 3, most, most, 21},
	} {
		t.Run(x.name, func(t *testing.T) {
			p := api.Poll{Kind: x.kind, Addr: x.addr, Count: x.count}
			a, errno := plan.Ask(p)
			if errno != x.want {
				t.Errorf("%d, not %d", errno, x.want)
			}
			if errno == 0 && !reflect.DeepEqual(a, api.Ask{Code: x.kind, Addr: x.addr, Count: x.count}) {
				t.Error(a)
			}
			checkAsk(t, p)
		})
	}
}

func TestAskOfManyPolls(t *testing.T) {
	var p api.Poll
	for _, p.Kind = range []int{least, -1, 0, 1, 2, 3, 4, 5, 6, most} {
		for _, p.Addr = range []int{least, -1, 0, 1, 63535, 63536, 63537, 63538, 65410, 65411, 65412, 65413, 65534, 65535, 65536, 65537, most} {
			for _, p.Count = range []int{least, -1, 0, 1, 2, 124, 125, 126, 1999, 2000, 2001, 65535, 65536, 65537, most} {
				checkAsk(t, p)
			}
		}
	}
}

func TestAskLooksAtNothingElse(t *testing.T) {
	for _, unit := range []int{least, -1, 0, 1, 247, 248, most} {
		for _, every := range []int{least, -1, 0, 1, 1 << 20, most} {
			for _, places := range [][]int{nil, {}, {0}, {-1, least, most}, make([]int, 100)} {
				for kind := -1; kind <= 6; kind++ {
					for _, count := range []int{0, 1, 125, 126} {
						checkAsk(t, api.Poll{Unit: unit, Kind: kind, Addr: 65411, Count: count, Every: every, Tags: places})
					}
				}
			}
		}
	}
}

// P10.3

// checkValues holds what Values, called twice, says against the chapter's words, sees that it changes and keeps nothing of what it is given, and tells what it said.
func checkValues(t *testing.T, l []api.Tag, p api.Poll, r api.Reply) ([]int, api.Errno) {
	t.Helper()
	want, errno := valuesOf(l, p, r)
	given, q, s := roomy(l, spareTags()...), p, r
	q.Tags = roomy(p.Tags, 0, 1, -1)
	s.On, s.Set, s.Files = roomy(r.On, true, false), roomy(r.Set, 1, 2), roomy(r.Files, []uint16{3})
	var got [2][]int
	for i := range got {
		v, e := plan.Values(given, q, s)
		if e != errno || !slices.Equal(v, want) {
			t.Fatalf("Values of %v, %v, %v is %v, %d, not %v, %d", l, p, r, v, e, want, errno)
		}
		got[i] = v
	}
	if !slices.Equal(given[:cap(given)][:len(l)+3], append(slices.Clone(l), spareTags()...)) || !slices.Equal(q.Tags[:len(p.Tags)+3], append(slices.Clone(p.Tags), 0, 1, -1)) {
		t.Fatalf("Values changed %v, %v", l, p)
	}
	if !slices.Equal(s.On[:len(r.On)+2], append(slices.Clone(r.On), true, false)) || !slices.Equal(s.Set[:len(r.Set)+2], append(slices.Clone(r.Set), 1, 2)) || !reflect.DeepEqual(s.Files[:len(r.Files)+1], append(slices.Clone(r.Files), []uint16{3})) {
		t.Fatalf("Values changed %v", r)
	}
	clear(given)
	clear(q.Tags)
	clear(s.On)
	clear(s.Set)
	clear(got[0][:cap(got[0])])
	if !slices.Equal(got[1], want) {
		t.Fatalf("Values of %v, %v, %v shares memory", l, p, r)
	}
	return want, errno
}

// filled is an answer that fits a poll of a Kind: noughts, but for the words, or bits, that are told ahead.
func filled(p api.Poll, words ...uint16) api.Reply {
	if p.Kind < 3 {
		on := make([]bool, p.Count)
		for i := range words {
			on[i] = words[i] > 0
		}
		return api.Reply{On: on}
	}
	return api.Reply{Set: append(words, make([]uint16, p.Count-len(words))...)}
}

func TestValuesOfWords(t *testing.T) {
	l := table(tag(0), tag(1), tag(10))
	p := poll(0, 11, 0, 1, 2)
	r := api.Reply{Set: []uint16{7, 8, 0, 0, 0, 0, 0, 0, 0, 0, 9}}
	for _, x := range []struct {
		name   string
		places []int
		want   []int
	}{
		{"the document's first one", []int{0, 1, 2}, []int{7, 8, 9}},
		{"turned", []int{2, 1, 0}, []int{9, 8, 7}},
		{"some", []int{1}, []int{8}},
		{"no list", nil, nil},
		{"an empty list", []int{}, nil},
		{"one twice", []int{2, 0, 2, 2}, []int{9, 7, 9, 9}},
		{"more than there are", []int{0, 1, 2, 0, 1, 2, 0}, []int{7, 8, 9, 7, 8, 9, 7}},
	} {
		t.Run(x.name, func(t *testing.T) {
			p.Tags = x.places
			v, errno := plan.Values(l, p, r)
			if errno != 0 || !slices.Equal(v, x.want) {
				t.Errorf("%v, %d", v, errno)
			}
			checkValues(t, l, p, r)
		})
	}
}

func TestValuesOfEveryPlaceManyTimes(t *testing.T) {
	l := table(tag(0), tag(1, wide))
	p := poll(0, 3)
	for i := range 5000 {
		p.Tags = append(p.Tags, i%2)
	}
	v, errno := plan.Values(l, p, filled(p, 5, 1, 2))
	if errno != 0 || len(v) != 5000 || v[0] != 5 || v[4999] != 65538 {
		t.Error(len(v), errno)
	}
}

func TestValuesLookAtNothingElseOfAPoll(t *testing.T) {
	l := table(tag(0), tag(1, often), tag(2, seldom))
	for _, every := range []int{least, -1, 0, 5, most} {
		p := of(1, 3, every, poll(0, 3, 0, 1, 2))
		v, errno := plan.Values(l, p, filled(p, 1, 2, 3))
		if errno != 0 || !slices.Equal(v, []int{1, 2, 3}) {
			t.Error(every, v, errno)
		}
		checkValues(t, l, p, filled(p, 1, 2, 3))
	}
}

func TestValuesOfScales(t *testing.T) {
	for _, x := range []struct {
		name  string
		s     api.Scale
		words []uint16
		want  int
	}{
		{"as it is", api.Scale{Mul: 1, Div: 1}, []uint16{0xFFFF}, 65535},
		{"nought", api.Scale{Mul: 1, Div: 1}, []uint16{0}, 0},
		{"nought, and more", api.Scale{Mul: 1, Div: 1, Add: -7}, []uint16{0}, -7},
		{"signed", api.Scale{Signed: true, Mul: 1, Div: 1}, []uint16{0xFFFF}, -1},
		{"signed, the least", api.Scale{Signed: true, Mul: 1, Div: 1}, []uint16{0x8000}, -32768},
		{"signed, the greatest", api.Scale{Signed: true, Mul: 1, Div: 1}, []uint16{0x7FFF}, 32767},
		{"wide", api.Scale{Wide: true, Mul: 1, Div: 1}, []uint16{1, 2}, 65538},
		{"swapped", api.Scale{Wide: true, Swap: true, Mul: 1, Div: 1}, []uint16{1, 2}, 131073},
		{"wide and signed", api.Scale{Wide: true, Signed: true, Mul: 1, Div: 1}, []uint16{0xFFFF, 0xFFFE}, -2},
		{"all three", api.Scale{Wide: true, Signed: true, Swap: true, Mul: 1, Div: 1}, []uint16{0xFFFE, 0xFFFF}, -2},
		{"a half goes away from nought", api.Scale{Mul: 1, Div: 2, Add: 10}, []uint16{3}, 12},
		{"below nought too", api.Scale{Signed: true, Mul: 1, Div: 2, Add: 10}, []uint16{0xFFFD}, 8},
		{"so little that it is nothing", api.Scale{Mul: 1, Div: 1000000}, []uint16{65535}, 0},
		{"too much", api.Scale{Wide: true, Mul: 1000000, Div: 1}, []uint16{0xFFFF, 0xFFFF}, top},
		{"too little", api.Scale{Wide: true, Mul: -1000000, Div: 1}, []uint16{0xFFFF, 0xFFFF}, -top},
		{"signed, too little", api.Scale{Wide: true, Signed: true, Mul: 1000000, Div: 1}, []uint16{0x8000, 0}, -top},
		{"no more than there may be", api.Scale{Mul: 1, Div: 1, Add: top}, []uint16{1}, top},
		{"one less", api.Scale{Signed: true, Mul: 1, Div: 1, Add: top}, []uint16{0xFFFF}, top - 1},
		{"no less than there may be", api.Scale{Mul: -1, Div: 1, Add: -top}, []uint16{1}, -top},
	} {
		for kind := 3; kind <= 4; kind++ {
			for _, at := range []int{0, 1, 123, 125 - len(x.words)} {
				name := x.name + ", Kind " + strconv.Itoa(kind) + ", from " + strconv.Itoa(at) + " on"
				l := table(tag(1000+at, func(y *api.Tag) { y.Kind, y.Scale = kind, x.s }))
				p := of(1, kind, 5, poll(1000, 125, 0))
				// The words about the tag's own are set, so that none of them is taken for one of its own unseen.
				r := api.Reply{Set: slices.Repeat([]uint16{0x5A5A}, 125)}
				copy(r.Set[at:], x.words)
				v, errno := plan.Values(l, p, r)
				if errno != 0 || !slices.Equal(v, []int{x.want}) {
					t.Errorf("%s: %v, %d", name, v, errno)
				}
				checkValues(t, l, p, r)
			}
		}
	}
}

func TestValuesOfBits(t *testing.T) {
	for kind := 1; kind <= 2; kind++ {
		for _, n := range []int{1, 2, 1999, 2000} {
			for _, at := range []int{0, n / 2, n - 1} {
				for _, set := range []bool{false, true} {
					l := table(tag(63536+at, func(x *api.Tag) { x.Kind = kind }), tag(63536, func(x *api.Tag) { x.Kind = kind }))
					p := of(1, kind, 5, poll(63536, n, 0, 0))
					// All other bits are turned the other way.
					r := api.Reply{On: slices.Repeat([]bool{!set}, n)}
					r.On[at] = set
					want := map[bool][]int{false: {0, 0}, true: {1, 1}}[set]
					v, errno := plan.Values(l, p, r)
					if errno != 0 || !slices.Equal(v, want) {
						t.Errorf("Kind %d, bit %d of %d, %v: %v, %d", kind, at, n, set, v, errno)
					}
					p.Tags = []int{1, 0}
					checkValues(t, l, p, r)
				}
			}
		}
	}
}

func TestValuesOfPollsThatAreTooLong(t *testing.T) {
	for kind := 1; kind <= 4; kind++ {
		l := table(tag(0, func(x *api.Tag) { x.Kind = kind }))
		for _, n := range []int{0, 1, 124, 125, 126, 1999, 2000, 2001} {
			p := of(1, kind, 5, poll(0, n, 0))
			_, errno := checkValues(t, l, p, filled(p))
			if want := n < 1 || n > mostOf(kind); want != (errno == 22) {
				t.Errorf("Kind %d, %d: %d", kind, n, errno)
			}
		}
	}
}

// pair is a table of four tags, a poll of two of them and an answer that fits. The other two lie within the poll as well.
func pair() ([]api.Tag, api.Poll, api.Reply) {
	return table(tag(100), tag(101, wide), tag(104), tag(103, wide)), poll(100, 5, 0, 1), api.Reply{Set: []uint16{7, 1, 2, 3, 4}}
}

// A turn makes something of what Values is given wrong.
type turn struct {
	name string
	make func(l []api.Tag, p *api.Poll, r *api.Reply)
	want api.Errno
}

// turns are what makes Values tell an error, each in one way, in the order of the chapter.
func turns() []turn {
	return []turn{
		{"a list that is no table", func(l []api.Tag, p *api.Poll, r *api.Reply) { l[3].Unit = 0 }, 24},
		{"no Kind", func(l []api.Tag, p *api.Poll, r *api.Reply) { p.Kind = 5 }, 28},
		{"no address", func(l []api.Tag, p *api.Poll, r *api.Reply) { p.Addr = -1 }, 21},
		{"too many words", func(l []api.Tag, p *api.Poll, r *api.Reply) { p.Count = 126 }, 22},
		{"no exception's number", func(l []api.Tag, p *api.Poll, r *api.Reply) { r.Exc = 128 }, 3},
		{"a list that words do not have", func(l []api.Tag, p *api.Poll, r *api.Reply) { r.On = []bool{true} }, 23},
		{"too few words", func(l []api.Tag, p *api.Poll, r *api.Reply) { r.Set = r.Set[:min(len(r.Set), 4)] }, 22},
		{"an exception", func(l []api.Tag, p *api.Poll, r *api.Reply) { *r = api.Reply{Exc: 2} }, 12},
		{"a tag that there is not", func(l []api.Tag, p *api.Poll, r *api.Reply) { p.Tags = append(p.Tags, 4) }, 3},
		{"a tag that lies outside", func(l []api.Tag, p *api.Poll, r *api.Reply) { p.Tags, l[2].Addr = append(p.Tags, 2), 105 }, 3},
	}
}

func TestEachErrorOfValues(t *testing.T) {
	all := turns()
	for i, x := range all {
		l, p, r := pair()
		x.make(l, &p, &r)
		if v, errno := plan.Values(l, p, r); errno != x.want || len(v) != 0 {
			t.Errorf("%s: %v, %d", x.name, v, errno)
		}
		checkValues(t, l, p, r)
		if i+1 == len(all) {
			continue
		}
		l, p, r = pair()
		all[i+1].make(l, &p, &r)
		x.make(l, &p, &r)
		want := x.want
		if x.name == "too few words" { // of an exception they are a list that it does not have, of whatever length
			r, want = api.Reply{Exc: 2, Set: []uint16{1}}, 23
		}
		if v, errno := plan.Values(l, p, r); errno != want || len(v) != 0 {
			t.Errorf("%s, and %s: %v, %d", x.name, all[i+1].name, v, errno)
		}
		checkValues(t, l, p, r)
	}
}

func TestTheFirstErrorOfValuesIsTold(t *testing.T) {
	all := turns()
	for set := range 1 << len(all) {
		l, p, r := pair()
		want := api.Errno(0)
		// From the last one to the first one, so that of two that turn the same field the earlier one stays.
		for i := len(all) - 1; i >= 0; i-- {
			if set>>i&1 == 0 {
				continue
			}
			had := len(r.Set)
			all[i].make(l, &p, &r)
			// An exception has no words of which there could be too few.
			if all[i].name != "too few words" || len(r.Set) < had {
				want = all[i].want
			}
		}
		if _, errno := checkValues(t, l, p, r); errno != want {
			t.Errorf("%b: %d, not %d", set, errno, want)
		}
	}
}

func TestValuesOfNoTable(t *testing.T) {
	_, p, r := pair()
	for _, x := range wrongLists() {
		for _, places := range [][]int{nil, {0}, {-1}, {most}} {
			p.Tags = places
			if v, errno := plan.Values(x.l, p, r); errno != x.want || len(v) != 0 {
				t.Errorf("%v: %v, %d, not %d", x.l, v, errno, x.want)
			}
			checkValues(t, x.l, p, r)
		}
		if v, errno := plan.Values(x.l, api.Poll{}, api.Reply{Exc: -1}); errno != x.want || len(v) != 0 {
			t.Errorf("%v: %v, %d, not %d", x.l, v, errno, x.want)
		}
	}
}

func TestValuesOfNoTag(t *testing.T) {
	p := poll(0, 3)
	for _, l := range [][]api.Tag{nil, {}} {
		if v, errno := plan.Values(l, p, filled(p)); errno != 0 || len(v) != 0 {
			t.Error(v, errno)
		}
		for _, at := range []int{-1, 0, 1} {
			p.Tags = []int{at}
			if v, errno := plan.Values(l, p, filled(p)); errno != 3 || len(v) != 0 {
				t.Error(at, v, errno)
			}
		}
		p.Tags = nil
	}
}

func TestValuesOfAnswers(t *testing.T) {
	words, bits := poll(0, 3, 0), of(1, 1, 5, poll(0, 3, 0))
	for _, x := range []struct {
		name string
		p    api.Poll
		r    api.Reply
		want api.Errno
	}{
		{"words", words, api.Reply{Set: []uint16{1, 2, 3}}, 0},
		{"an exception", words, api.Reply{Exc: 1}, 12},
		{"the last exception", words, api.Reply{Exc: 127}, 12},
		{"no exception", words, api.Reply{Exc: 128}, 3},
		{"one below 0", words, api.Reply{Exc: -1}, 3},
		{"the least", words, api.Reply{Exc: least}, 3},
		{"the greatest", words, api.Reply{Exc: most}, 3},
		{"an exception with words", words, api.Reply{Exc: 2, Set: []uint16{1, 2, 3}}, 23},
		{"nothing", words, api.Reply{}, 22},
		{"too few", words, api.Reply{Set: []uint16{1, 2}}, 22},
		{"too many", words, api.Reply{Set: []uint16{1, 2, 3, 4}}, 22},
		{"bits for words", words, api.Reply{On: []bool{true, true, true}}, 23},
		{"both", words, api.Reply{On: []bool{true, true, true}, Set: []uint16{1, 2, 3}}, 23},
		{"files", words, api.Reply{Files: [][]uint16{{1, 2, 3}}}, 23},
		{"bits", bits, api.Reply{On: []bool{true, true, true}}, 0},
		{"of bits, an exception", bits, api.Reply{Exc: 4}, 12},
		{"of bits, too few", bits, api.Reply{On: []bool{true, true}}, 22},
		{"of bits, too many", bits, api.Reply{On: make([]bool, 8)}, 22},
		{"words for bits", bits, api.Reply{Set: []uint16{1, 2, 3}}, 23},
	} {
		t.Run(x.name, func(t *testing.T) {
			l := table(tag(0, func(y *api.Tag) { y.Kind = x.p.Kind }))
			if v, errno := plan.Values(l, x.p, x.r); errno != x.want || (errno == 0) != (len(v) == 1) {
				t.Error(v, errno)
			}
			checkValues(t, l, x.p, x.r)
		})
	}
}

func TestValuesOfPlacesThatThereAreNot(t *testing.T) {
	l, p, r := pair()
	for _, at := range []int{least, -65536, -2, -1, 4, 5, 63, 64, 65536, most} {
		for _, places := range [][]int{{at}, {at, 0}, {0, at}, {0, 1, at, 1}, {at, at}, {at, 4}, {-1, at}} {
			p.Tags = places
			if v, errno := plan.Values(l, p, r); errno != 3 || len(v) != 0 {
				t.Errorf("%v: %v, %d", places, v, errno)
			}
			checkValues(t, l, p, r)
		}
	}
}

func TestValuesOfTagsThatLieOutside(t *testing.T) {
	for _, x := range []struct {
		name  string
		tag   api.Tag
		whole bool
	}{
		{"within", tag(102), true},
		{"the first address", tag(100), true},
		{"the last address", tag(104), true},
		{"the first two addresses", tag(100, wide), true},
		{"the last two addresses", tag(103, wide), true},
		{"another time", tag(102, seldom), true},
		{"another unit", tag(102, second), false},
		{"the unit below", tag(102, func(x *api.Tag) { x.Unit = 247 }), false},
		{"another Kind", tag(102, reg), false},
		{"a bit", tag(102, coil), false},
		{"one address ahead", tag(99), false},
		{"wide, one address ahead", tag(99, wide), false},
		{"wide, two addresses ahead", tag(98, wide), false},
		{"one address behind", tag(105), false},
		{"wide, the last address and one behind", tag(104, wide), false},
		{"wide, one address behind", tag(105, wide), false},
		{"far ahead", tag(0), false},
		{"far behind", tag(65534, wide), false},
	} {
		t.Run(x.name, func(t *testing.T) {
			l := table(tag(101), x.tag, tag(102))
			r := api.Reply{Set: []uint16{5, 6, 7, 8, 9}}
			for _, places := range [][]int{{1}, {0, 1}, {1, 0}, {0, 1, 2}, {1, 3}, {3, 1}, {-1, 1}, {1, 1}} {
				p := poll(100, 5, places...)
				v, errno := plan.Values(l, p, r)
				right := x.whole && !slices.Contains(places, 3) && !slices.Contains(places, -1)
				if right != (errno == 0) || !right && (errno != 3 || len(v) != 0) {
					t.Errorf("%v: %v, %d", places, v, errno)
				}
				checkValues(t, l, p, r)
			}
			p := poll(100, 5, 0, 2)
			if v, errno := plan.Values(l, p, r); errno != 0 || !slices.Equal(v, []int{6, 7}) {
				t.Error("not asked for:", v, errno)
			}
		})
	}
}

func TestValuesOfEachTagAndEachPoll(t *testing.T) {
	tagsOf := choices([]int{1, 2}, []int{1, 2}, []int{1, 2, 3, 4}, []int{0, 1, 2, 3, 4, 5, 65533, 65534, 65535})
	for _, x := range tagsOf {
		l := table(x)
		for unit := 0; unit <= 3; unit++ {
			for kind := 1; kind <= 4; kind++ {
				for _, addr := range []int{0, 1, 2, 3, 65533, 65534, 65535} {
					for count := 1; count <= 3; count++ {
						p := of(unit, kind, 1, poll(addr, count, 0))
						checkValues(t, l, p, filled(p, []uint16{1, 0x8000, 3}[:count]...))
					}
				}
			}
		}
	}
}

// P10.4

// checkWhole holds the polls of a table against what is promised of them, each by itself.
func checkWhole(t *testing.T, l []api.Tag) []api.Poll {
	t.Helper()
	polls, errno := plan.Plan(l)
	if errno != 0 {
		t.Fatalf("Plan of %v: %d", l, errno)
	}
	in := make([]int, len(l))
	for i, p := range polls {
		a, errno := plan.Ask(p)
		if errno != 0 || !reflect.DeepEqual(a, api.Ask{Code: p.Kind, Addr: p.Addr, Count: p.Count}) {
			t.Fatalf("%v: the poll %v may not be asked: %v, %d", l, p, a, errno)
		}
		if len(p.Tags) == 0 {
			t.Fatalf("%v: the poll %v has no tag", l, p)
		}
		if first, behind := reads(l, p.Tags); first != p.Addr || behind != p.Addr+p.Count || l[p.Tags[0]].Addr != first {
			t.Fatalf("%v: the poll %v reads other addresses than from %d to %d", l, p, first, behind)
		}
		for _, at := range p.Tags {
			in[at]++
			if l[at].Unit != p.Unit || l[at].Kind != p.Kind || l[at].Every != p.Every {
				t.Fatalf("%v: the tag %d is none of the poll %v", l, at, p)
			}
		}
		if i > 0 && mayJoin(l, polls[i-1].Tags, p.Tags[0]) {
			t.Fatalf("%v: the poll %v begins with a tag that could join the one ahead", l, p)
		}
		if _, errno := plan.Values(l, p, filled(p)); errno != 0 {
			t.Fatalf("%v: a tag lies outside its poll %v: %d", l, p, errno)
		}
	}
	for at, n := range in {
		if n != 1 {
			t.Fatalf("%v: the tag %d is in %d polls", l, at, n)
		}
	}
	return polls
}

// anyTable is a table of n tags: some of few units, times and Kinds, close to each other or far away.
func anyTable(r *rand.Rand, n int) []api.Tag {
	units, everies, kinds := 1+r.Intn(3), 1+r.Intn(3), 1+r.Intn(4)
	from := []int{0, 1, 30000, 65536 - 160, 65536 - 600}[r.Intn(5)]
	far := []int{2, 12, 60, 160, 600}[r.Intn(5)]
	var l []api.Tag
	for range n {
		x := tag(min(from+r.Intn(far), 65534))
		x.Unit, x.Every, x.Kind = 1+r.Intn(units), 1+r.Intn(everies), 5-1-r.Intn(kinds)
		if x.Kind > 2 {
			x.Scale = api.Scale{Wide: r.Intn(3) == 0, Signed: r.Intn(2) == 0, Mul: 1 + r.Intn(9), Div: 1 + r.Intn(9), Add: r.Intn(100) - 50}
			x.Scale.Swap = x.Scale.Wide && r.Intn(2) == 0
		}
		l = append(l, x)
	}
	return table(l...)
}

func TestPollsOfManyTables(t *testing.T) {
	r := rand.New(rand.NewSource(10))
	for i := range 6000 {
		l := anyTable(r, i%65)
		checkPlan(t, l)
		checkWhole(t, l)
	}
}

func TestPollsOfSmallTables(t *testing.T) {
	some := choices([]int{1, 2}, []int{1, 2}, []int{1, 2, 3, 4}, []int{0, 1, 9, 10, 11})
	for _, x := range some {
		checkWhole(t, table(x))
		for _, y := range some {
			checkWhole(t, table(x, y))
		}
	}
	checkWhole(t, nil)
}

// P10.5

// A store is what units' registers hold: the word, or the bit (if it is odd), of each address.
type store func(unit, kind, addr int) uint16

// answer is what a unit with such registers answers to a poll's request.
func (s store) answer(unit int, a api.Ask) api.Reply {
	var r api.Reply
	for addr := a.Addr; addr < a.Addr+a.Count; addr++ {
		word := s(unit, a.Code, addr)
		if a.Code < 3 {
			r.On = append(r.On, word%2 > 0)
		} else {
			r.Set = append(r.Set, word)
		}
	}
	return r
}

// stores are units with registers that hold the same everywhere, that hold what hangs on their address, and that hold anything.
func stores() []store {
	return []store{
		func(unit, kind, addr int) uint16 { return 0 },
		func(unit, kind, addr int) uint16 { return 0xFFFF },
		func(unit, kind, addr int) uint16 { return 0x8000 },
		func(unit, kind, addr int) uint16 { return uint16(addr) },
		func(unit, kind, addr int) uint16 {
			n := uint32(unit*5+kind)*65536 + uint32(addr)
			n = (n ^ n>>15) * 0x2C1B3C6D
			n = (n ^ n>>12) * 0x297A2D39
			return uint16(n ^ n>>15)
		},
	}
}

// checkRead asks for all polls of a table and holds what their answers say of each tag against its own words.
func checkRead(t *testing.T, l []api.Tag, s store) {
	t.Helper()
	for _, p := range checkWhole(t, l) {
		a, _ := plan.Ask(p)
		v, errno := checkValues(t, l, p, s.answer(p.Unit, a))
		if errno != 0 || len(v) != len(p.Tags) {
			t.Fatalf("%v: the poll %v: %v, %d", l, p, v, errno)
		}
		for i, at := range p.Tags {
			own := s.answer(l[at].Unit, api.Ask{Code: l[at].Kind, Addr: l[at].Addr, Count: widthOf(l[at])})
			if want := means(l[at], l[at].Addr, own); v[i] != want {
				t.Fatalf("%v: the poll %v: the tag %d is %d, not %d", l, p, at, v[i], want)
			}
		}
	}
}

func TestValuesOfAllPollsAreTheTagsOwn(t *testing.T) {
	r := rand.New(rand.NewSource(11))
	for i := range 2000 {
		l := anyTable(r, i%65)
		for _, s := range stores() {
			checkRead(t, l, s)
		}
	}
}

func TestValuesOfAllKinds(t *testing.T) {
	l := table(tag(3, coil), tag(5, coil), tag(3, input), tag(4, input), tag(3), tag(4, wide), tag(3, reg), tag(4, reg, wide), tag(4), tag(5, second))
	held := func(unit, kind, addr int) uint16 { return uint16(unit*1000 + kind*100 + addr) }
	want := map[int]int{0: 1, 1: 1, 2: 1, 3: 0, 4: 1303, 5: 1304*65536 + 1305, 6: 1403, 7: 1404*65536 + 1405, 8: 1304, 9: 2305}
	got := map[int]int{}
	polls, _ := plan.Plan(l)
	for _, p := range polls {
		a, _ := plan.Ask(p)
		v, errno := plan.Values(l, p, store(held).answer(p.Unit, a))
		if errno != 0 {
			t.Fatal(p, errno)
		}
		for i, at := range p.Tags {
			got[at] = v[i]
		}
	}
	if len(polls) != 5 || !reflect.DeepEqual(got, want) {
		t.Error(polls, got)
	}
	for _, s := range append(stores(), held) {
		checkRead(t, l, s)
	}
}
