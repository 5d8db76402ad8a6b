package alarm_test

import (
	"math"
	"math/big"
	"math/rand"
	"slices"
	"testing"

	"outstation/alarm"
	"outstation/api"
)

const (
	least = math.MinInt
	most  = math.MaxInt
	top   = 1 << 40
)

// states are the three States, and numbers that are none.
func states() []int { return []int{0, 1, 2, 3, 4, -1, -2, least, most, 1 << 32, 1<<32 + 1} }

// alarms are alarms of each State, and of none, that wait and do not.
func alarms() []api.Alarm {
	var out []api.Alarm
	for _, s := range states() {
		out = append(out, api.Alarm{State: s}, api.Alarm{State: s, Waits: true})
	}
	return out
}

// rightAlarms are the alarms that there are.
func rightAlarms() []api.Alarm { return alarms()[:6] }

// both are limits of both sides.
func both(low, high, hyst int) api.Limits {
	return api.Limits{UseLow: true, UseHigh: true, Low: low, High: high, Hyst: hyst}
}

// lowOnly are limits of the low side.
func lowOnly(low, hyst int) api.Limits { return api.Limits{UseLow: true, Low: low, Hyst: hyst} }

// highOnly are limits of the high side.
func highOnly(high, hyst int) api.Limits { return api.Limits{UseHigh: true, High: high, Hyst: hyst} }

// latched are the same limits with Latch.
func latched(l api.Limits) api.Limits {
	l.Latch = true
	return l
}

// rightLimits are limits that may be: both sides, either one and none, with and without Latch, their numbers at the ends and between.
func rightLimits() []api.Limits {
	var out []api.Limits
	for _, hyst := range []int{0, 1, 2, 9, 1<<32 + 1, top - 1, top} {
		out = append(out, api.Limits{Hyst: hyst})
		for _, at := range []int{-top, -top + 1, -20, -1, 0, 1, 10, 1 << 32, top - 1, top} {
			out = append(out, lowOnly(at, hyst), highOnly(at, hyst))
		}
	}
	out = append(out,
		both(10, 20, 0), both(10, 20, 1), both(10, 20, 2), both(10, 20, 5), both(10, 20, 9),
		both(-20, -10, 3), both(-3, 4, 6), both(0, 1, 0), both(-1, 0, 0), both(-1, 1, 1),
		both(-top, top, 0), both(-top, top, top), both(-top, 0, top-1), both(0, top, top-1),
		both(-top, 1, top), both(-top, -top+1, 0), both(top-1, top, 0), both(-1, top, top),
	)
	for _, l := range slices.Clone(out) {
		out = append(out, latched(l))
	}
	return out
}

// wrongLimits are limits that may not be, most of them for one reason alone.
func wrongLimits() []api.Limits {
	out := []api.Limits{
		both(10, 20, 10), both(10, 20, 11), both(10, 20, top), both(10, 10, 0), both(20, 10, 0), both(11, 10, 0),
		both(0, 1, 1), both(0, top, top), both(-top, 0, top), both(top, -top, 0), both(top, top, 0),
		both(-top, -top, 0), both(least, most, 0), both(most, least, 0), both(least, least, least),
	}
	for _, hyst := range []int{least, least + 1, -top, -1 << 32, -2, -1, top + 1, 1 << 41, most - 1, most} {
		out = append(out, api.Limits{Hyst: hyst}, lowOnly(0, hyst), highOnly(0, hyst), both(-top, top, hyst))
	}
	for _, far := range []int{least, least + 1, -1 << 41, -top - 1, top + 1, 1 << 41, most - 1, most} {
		out = append(out, lowOnly(far, 0), highOnly(far, 0), both(far, 0, 0), both(0, far, 0))
	}
	for _, stray := range []int{least, -top - 1, -top, -1, 1, 10, top, top + 1, most} {
		out = append(out, api.Limits{Low: stray}, api.Limits{High: stray})
		out = append(out, api.Limits{UseLow: true, High: stray}, api.Limits{UseHigh: true, Low: stray})
	}
	for _, l := range slices.Clone(out) {
		out = append(out, latched(l))
	}
	return out
}

// lies says whether a true number is from low to high.
func lies(v *big.Int, low, high int) bool {
	return v.Cmp(big.NewInt(int64(low))) >= 0 && v.Cmp(big.NewInt(int64(high))) <= 0
}

// mayBe says, by the chapter's words, whether limits may be.
func mayBe(l api.Limits) bool {
	low, high, hyst := big.NewInt(int64(l.Low)), big.NewInt(int64(l.High)), big.NewInt(int64(l.Hyst))
	if !lies(hyst, 0, top) || !lies(low, -top, top) || !lies(high, -top, top) {
		return false
	}
	if !l.UseLow && l.Low != 0 || !l.UseHigh && l.High != 0 {
		return false
	}
	return !l.UseLow || !l.UseHigh || hyst.Cmp(new(big.Int).Sub(high, low)) < 0
}

func isLow(l api.Limits, v int) bool    { return l.UseLow && !(v > l.Low) }
func isHigh(l api.Limits, v int) bool   { return l.UseHigh && !(v < l.High) }
func backLow(l api.Limits, v int) bool  { return !l.UseLow || v > l.Low+l.Hyst }
func backHigh(l api.Limits, v int) bool { return !l.UseHigh || v < l.High-l.Hyst }

// stepped is what the chapter's five cases say that a step makes.
func stepped(l api.Limits, a api.Alarm, v int) (api.Alarm, int) {
	switch {
	case !mayBe(l) || a.State != 0 && a.State != 1 && a.State != 2:
		return a, 0
	case isLow(l, v) && a.State == 1, isHigh(l, v) && a.State == 2:
		return a, 0
	case isLow(l, v):
		return api.Alarm{State: 1, Waits: true}, 1
	case isHigh(l, v):
		return api.Alarm{State: 2, Waits: true}, 2
	case a.State == 1 && backLow(l, v), a.State == 2 && backHigh(l, v):
		if l.Latch && a.Waits {
			return a, 0
		}
		return api.Alarm{State: 0, Waits: a.Waits}, 3
	}
	return a, 0
}

// checkStep holds an answer of Step, given twice, against the chapter's words, and tells what it was.
func checkStep(t *testing.T, l api.Limits, a api.Alarm, v int) (api.Alarm, int) {
	t.Helper()
	want, event := stepped(l, a, v)
	for range 2 {
		if got, is := alarm.Step(l, a, v); got != want || is != event {
			t.Fatalf("Step(%v, %v, %d) is %v, %d, not %v, %d", l, a, v, got, is, want, event)
		}
	}
	return want, event
}

// edges are the values at which something changes for these limits, those to each side of them, and the ends of an int.
func edges(l api.Limits) []int {
	out := []int{least, least + 1, most - 1, most}
	for _, at := range []int{0, l.Low, l.High, l.Low + l.Hyst, l.High - l.Hyst, l.Low - l.Hyst, l.High + l.Hyst} {
		out = append(out, at-1, at, at+1) // of limits that may not be these may wrap round, which spoils nothing
	}
	slices.Sort(out)
	return slices.Compact(out)
}

// eachStep calls a function with limits that may be, each alarm that there is, and each value at an edge.
func eachStep(f func(l api.Limits, a api.Alarm, v int)) {
	for _, l := range rightLimits() {
		for _, a := range rightAlarms() {
			for _, v := range edges(l) {
				f(l, a, v)
			}
		}
	}
}

// something is what happens to an alarm: a value comes, or it is acknowledged.
type something struct {
	ack   bool
	value int
}

// happen makes of an alarm what something makes of it, and tells the event.
func happen(l api.Limits, a api.Alarm, s something) (api.Alarm, int) {
	if !s.ack {
		return alarm.Step(l, a, s.value)
	}
	next, did := alarm.Ack(a)
	if did {
		return next, 4
	}
	return next, 0
}

// aRow is a row of n things that happen: values at the edges and between, and, one time of five, an acknowledgement.
func aRow(r *rand.Rand, l api.Limits, n int) []something {
	e := edges(l)
	var out []something
	for range n {
		out = append(out, something{ack: r.Intn(5) == 0, value: e[r.Intn(len(e))]})
	}
	return out
}

// eachRow calls a function with limits that may be and rows of what happens, the same ones in every run.
func eachRow(f func(l api.Limits, row []something)) {
	r := rand.New(rand.NewSource(8))
	for range 20 {
		for _, l := range rightLimits() {
			f(l, aRow(r, l, r.Intn(40)))
		}
	}
}

// shortRows calls a function with some limits and each row of up to four things that happen at their edges.
func shortRows(f func(l api.Limits, row []something)) {
	for _, l := range []api.Limits{both(0, 3, 1), both(0, 2, 1), both(0, 1, 0), lowOnly(0, 1), highOnly(0, 1), {Hyst: 1}} {
		all := []something{{ack: true}}
		for v := -2; v <= 4; v++ {
			all = append(all, something{value: v})
		}
		for _, x := range []api.Limits{l, latched(l)} {
			extend(x, nil, all, f)
		}
	}
}

// extend calls a function with a row and with each longer one, up to four long.
func extend(l api.Limits, row, all []something, f func(l api.Limits, row []something)) {
	f(l, row)
	if len(row) == 4 {
		return
	}
	for _, s := range all {
		extend(l, append(row[:len(row):len(row)], s), all, f)
	}
}

// P8.1

func TestCheckOfWords(t *testing.T) {
	for _, x := range []struct {
		name string
		l    api.Limits
		want api.Errno
	}{
		{"the chapter's limits", both(10, 20, 2), 0},
		{"no limits", api.Limits{}, 0},
		{"no limits, with Latch", api.Limits{Latch: true}, 0},
		{"Hyst where no side is used", api.Limits{Hyst: 5}, 0},
		{"the greatest Hyst where no side is used", api.Limits{Hyst: top}, 0},
		{"Hyst one beyond", api.Limits{Hyst: top + 1}, 27},
		{"Hyst of the greatest int", api.Limits{Hyst: most}, 27},
		{"Hyst below 0", api.Limits{Hyst: -1}, 27},
		{"Hyst of the least int", api.Limits{Hyst: least}, 27},
		{"Hyst below 0 with both sides", both(10, 20, -1), 27},
		{"Hyst of the least int with both sides", both(10, 20, least), 27},
		{"Hyst just below High less Low", both(10, 20, 9), 0},
		{"Hyst just High less Low", both(10, 20, 10), 27},
		{"Hyst above High less Low", both(10, 20, 11), 27},
		{"Hyst just below, the greatest", both(-top, 1, top), 0},
		{"Hyst just High less Low, the greatest", both(-top, 0, top), 27},
		{"Hyst beyond, though below High less Low", both(-top, top, top+1), 27},
		{"High one above Low", both(-1, 0, 0), 0},
		{"High just Low", both(7, 7, 0), 27},
		{"High below Low", both(8, 7, 0), 27},
		{"the lowest Low", lowOnly(-top, 0), 0},
		{"the highest Low", lowOnly(top, top), 0},
		{"Low one beyond, below", lowOnly(-top-1, 0), 27},
		{"Low one beyond, above", lowOnly(top+1, 0), 27},
		{"Low of the least int", lowOnly(least, 0), 27},
		{"Low of the greatest int", lowOnly(most, 0), 27},
		{"the lowest High", highOnly(-top, top), 0},
		{"the highest High", highOnly(top, 0), 0},
		{"High one beyond, below", highOnly(-top-1, 0), 27},
		{"High one beyond, above", highOnly(top+1, 0), 27},
		{"High of the least int", highOnly(least, 0), 27},
		{"High of the greatest int", highOnly(most, 0), 27},
		{"the ends of both", both(-top, top, top), 0},
		{"the ends of an int", both(least, most, 0), 27},
		{"the ends of an int the other way round", both(most, least, 0), 27},
		{"Low without UseLow", api.Limits{Low: 1}, 27},
		{"Low below 0 without UseLow", api.Limits{Low: -1, UseHigh: true, High: 20}, 27},
		{"High without UseHigh", api.Limits{UseLow: true, Low: 10, High: 20, Hyst: 2}, 27},
		{"High below 0 without UseHigh", api.Limits{High: -1}, 27},
		{"High where only Low is used, and 0", lowOnly(10, 2), 0},
		{"Low above 0 where only Low is used, and a great Hyst", lowOnly(10, 1000), 0},
		{"High where only High is used, and a great Hyst", highOnly(10, 1000), 0},
	} {
		for _, l := range []api.Limits{x.l, latched(x.l)} {
			if got := alarm.Check(l); got != x.want {
				t.Errorf("%s: Check(%v) is %d", x.name, l, got)
			}
		}
	}
}

func TestCheckOfManyLimits(t *testing.T) {
	for _, l := range rightLimits() {
		if got := alarm.Check(l); got != 0 || !mayBe(l) {
			t.Errorf("Check(%v) is %d", l, got)
		}
	}
	for _, l := range wrongLimits() {
		if got := alarm.Check(l); got != 27 || mayBe(l) {
			t.Errorf("Check(%v) is %d", l, got)
		}
	}
}

func TestCheckOfAnyLimits(t *testing.T) {
	numbers := []int{least, -top - 1, -top, -10, -1, 0, 1, 9, 10, 11, 1 << 32, top - 1, top, top + 1, most}
	for used := range 8 {
		for _, low := range numbers {
			for _, high := range numbers {
				for _, hyst := range append(numbers, high-low-1, high-low, high-low+1) {
					l := api.Limits{UseLow: used&1 > 0, UseHigh: used&2 > 0, Latch: used&4 > 0, Low: low, High: high, Hyst: hyst}
					want := api.Errno(27)
					if mayBe(l) {
						want = 0
					}
					if got := alarm.Check(l); got != want {
						t.Fatalf("Check(%v) is %d", l, got)
					}
				}
			}
		}
	}
}

// P8.2

func TestStepOfWords(t *testing.T) {
	normal, low, high := api.Alarm{}, api.Alarm{State: 1}, api.Alarm{State: 2}
	normalWaits, lowWaits, highWaits := api.Alarm{Waits: true}, api.Alarm{State: 1, Waits: true}, api.Alarm{State: 2, Waits: true}
	l := both(10, 20, 2)
	for _, x := range []struct {
		name  string
		l     api.Limits
		a     api.Alarm
		value int
		want  api.Alarm
		event int
	}{
		{"at Low", l, normal, 10, lowWaits, 1},
		{"one above Low", l, normal, 11, normal, 0},
		{"one below Low", l, normal, 9, lowWaits, 1},
		{"the least int", l, normal, least, lowWaits, 1},
		{"at High", l, normal, 20, highWaits, 2},
		{"one below High", l, normal, 19, normal, 0},
		{"one above High", l, normal, 21, highWaits, 2},
		{"the greatest int", l, normal, most, highWaits, 2},
		{"one waits, and a value is low", l, normalWaits, 10, lowWaits, 1},
		{"one waits, and a value is neither", l, normalWaits, 15, normalWaits, 0},
		{"low already", l, low, 10, low, 0},
		{"low already, and waits", l, lowWaits, 9, lowWaits, 0},
		{"at Low and Hyst", l, low, 12, low, 0},
		{"one below Low and Hyst", l, low, 11, low, 0},
		{"one above Low and Hyst", l, low, 13, normal, 3},
		{"one above Low and Hyst, and waits", l, lowWaits, 13, normalWaits, 3},
		{"high already", l, high, 20, high, 0},
		{"high already, and waits", l, highWaits, 21, highWaits, 0},
		{"at High less Hyst", l, high, 18, high, 0},
		{"one above High less Hyst", l, high, 19, high, 0},
		{"one below High less Hyst", l, high, 17, normal, 3},
		{"one below High less Hyst, and waits", l, highWaits, 17, normalWaits, 3},
		{"back from low, though not from high", l, low, 19, normal, 3},
		{"back from high, though not from low", l, high, 11, normal, 3},
		{"from low to high", l, low, 20, highWaits, 2},
		{"from low to high, and waits", l, lowWaits, most, highWaits, 2},
		{"from high to low", l, high, 10, lowWaits, 1},
		{"from high to low, and waits", l, highWaits, least, lowWaits, 1},
		{"latched, from low to high", latched(l), lowWaits, 20, highWaits, 2},
		{"latched, from high to low", latched(l), highWaits, 10, lowWaits, 1},
		{"latched, back from low, and waits", latched(l), lowWaits, 13, lowWaits, 0},
		{"latched, back from low", latched(l), low, 13, normal, 3},
		{"latched, back from high, and waits", latched(l), highWaits, 17, highWaits, 0},
		{"latched, back from high", latched(l), high, 17, normal, 3},
		{"latched, at Low and Hyst", latched(l), low, 12, low, 0},
		{"latched, a value is neither", latched(l), normalWaits, 15, normalWaits, 0},
		{"no Hyst, at Low", both(10, 20, 0), low, 10, low, 0},
		{"no Hyst, one above Low", both(10, 20, 0), low, 11, normal, 3},
		{"no Hyst, one below High", both(10, 20, 0), high, 19, normal, 3},
		{"the greatest Hyst, one below High", both(10, 20, 9), low, 19, low, 0},
		{"the greatest Hyst, one above Low", both(10, 20, 9), high, 11, high, 0},
		{"the greatest Hyst, at High", both(10, 20, 9), low, 20, highWaits, 2},
		{"High and Low side by side", both(0, 1, 0), low, 1, highWaits, 2},
		{"Low alone, a high value", lowOnly(10, 2), normal, most, normal, 0},
		{"Low alone, at 0", lowOnly(10, 2), normal, 0, lowWaits, 1},
		{"Low alone, high before", lowOnly(10, 2), high, 11, normal, 3},
		{"Low alone, high before, and a low value", lowOnly(10, 2), high, 10, lowWaits, 1},
		{"High alone, a low value", highOnly(20, 2), normal, least, normal, 0},
		{"High alone, at 0 below its limit", highOnly(20, 2), normal, 0, normal, 0},
		{"High alone, low before", highOnly(20, 2), low, 19, normal, 3},
		{"High alone, low before, and a high value", highOnly(20, 2), low, 20, highWaits, 2},
		{"no side, low before", api.Limits{Hyst: 5}, low, 0, normal, 3},
		{"no side, low before, and waits", api.Limits{}, lowWaits, least, normalWaits, 3},
		{"no side, high before", api.Limits{}, high, most, normal, 3},
		{"no side, latched, and waits", api.Limits{Latch: true}, highWaits, 0, highWaits, 0},
		{"no side, latched", api.Limits{Latch: true}, high, 0, normal, 3},
		{"no side, normal", api.Limits{}, normal, 0, normal, 0},
		{"the ends, at Low", both(-top, top, top), normal, -top, lowWaits, 1},
		{"the ends, between", both(-top, top, top), low, 0, low, 0},
		{"the ends, back from low", both(-top, top, top), low, 1, normal, 3},
		{"the ends, back from high", both(-top, top, top), high, -1, normal, 3},
		{"the ends together, back from low", lowOnly(top, top), low, 1<<41 + 1, normal, 3},
		{"the ends together, at Low and Hyst", lowOnly(top, top), low, 1 << 41, low, 0},
		{"the ends together, back from high", highOnly(-top, top), high, -1<<41 - 1, normal, 3},
		{"the ends together, at High less Hyst", highOnly(-top, top), high, -1 << 41, high, 0},
		{"the State 3", l, api.Alarm{State: 3}, 9, api.Alarm{State: 3}, 0},
		{"the State 3, and waits", l, api.Alarm{State: 3, Waits: true}, 25, api.Alarm{State: 3, Waits: true}, 0},
		{"the State -1", l, api.Alarm{State: -1}, 9, api.Alarm{State: -1}, 0},
		{"the least State", l, api.Alarm{State: least, Waits: true}, 15, api.Alarm{State: least, Waits: true}, 0},
		{"the greatest State", api.Limits{}, api.Alarm{State: most}, 15, api.Alarm{State: most}, 0},
		{"no limits, normal", both(10, 20, 10), normal, 5, normal, 0},
		{"no limits, low", both(10, 20, 10), low, 1000, low, 0},
		{"no limits, high", both(20, 10, 0), highWaits, 5, highWaits, 0},
		{"a Low that is not used", api.Limits{Low: 1}, low, 50, low, 0},
		{"a Low beyond", lowOnly(top+1, 0), normal, 0, normal, 0},
		{"a Hyst below 0", highOnly(0, -1), high, -5, high, 0},
	} {
		if got, event := alarm.Step(x.l, x.a, x.value); got != x.want || event != x.event {
			t.Errorf("%s: %v, %d", x.name, got, event)
		}
	}
}

func TestStepAtTheEdges(t *testing.T) {
	for _, l := range append(rightLimits(), wrongLimits()...) {
		for _, a := range alarms() {
			for _, v := range edges(l) {
				checkStep(t, l, a, v)
			}
		}
	}
}

func TestStepOfLimitsThatMayNotBe(t *testing.T) {
	for _, l := range wrongLimits() {
		for _, a := range alarms() {
			for _, v := range edges(l) {
				if got, event := alarm.Step(l, a, v); got != a || event != 0 {
					t.Fatalf("Step(%v, %v, %d) is %v, %d", l, a, v, got, event)
				}
			}
		}
	}
}

func TestStepOfStatesThatAreNone(t *testing.T) {
	for _, l := range rightLimits() {
		for _, a := range alarms()[6:] {
			for _, v := range edges(l) {
				if got, event := alarm.Step(l, a, v); got != a || event != 0 {
					t.Fatalf("Step(%v, %v, %d) is %v, %d", l, a, v, got, event)
				}
			}
		}
	}
}

func TestRowsOfValues(t *testing.T) {
	l := both(10, 20, 2)
	ack := something{ack: true}
	values := func(l ...int) []something {
		var out []something
		for _, v := range l {
			out = append(out, something{value: v})
		}
		return out
	}
	for _, x := range []struct {
		name string
		l    api.Limits
		row  []something
		want []int
	}{
		{"the chapter's first", l, values(15, 10, 12, 13), []int{0, 1, 0, 3}},
		{"the chapter's second", l, values(9, 25, 18, 17), []int{1, 2, 0, 3}},
		{"the chapter's third", latched(l), append(values(9, 15), ack, something{value: 15}), []int{1, 0, 4, 3}},
		{"the same without Latch", l, append(values(9, 15), ack, something{value: 15}), []int{1, 3, 4, 0}},
		{"acknowledged ahead of a value that is back", latched(l), append(values(9), ack, something{value: 9}, something{value: 12}, something{value: 13}), []int{1, 4, 0, 0, 3}},
		{"the same without Latch, acknowledged twice", l, append(values(25), ack, ack, something{value: 17}, ack), []int{2, 4, 0, 3, 0}},
		{"latched, from one side to the other and back", latched(l), append(values(9, 25, 9, 15), ack, something{value: 15}), []int{1, 2, 1, 0, 4, 3}},
		{"acknowledged, and then the other side", latched(l), append(values(9), ack, something{value: 25}, something{value: 15}, ack, something{value: 15}), []int{1, 4, 2, 0, 4, 3}},
		{"never acknowledged", latched(l), values(9, 15, 15, 9, 15, 20, 15), []int{1, 0, 0, 0, 0, 2, 0}},
		{"raised again behind a clearing", l, values(9, 13, 10, 20, 17, 20), []int{1, 3, 1, 2, 3, 2}},
		{"acknowledged with nothing raised", l, append([]something{ack}, values(15, 9)...), []int{0, 0, 1}},
	} {
		var a api.Alarm
		for i, s := range x.row {
			next, event := happen(x.l, a, s)
			if event != x.want[i] {
				t.Errorf("%s: at place %d %d, not %d", x.name, i, event, x.want[i])
			}
			a = next
		}
	}
}

func TestManyRows(t *testing.T) {
	eachRow(func(l api.Limits, row []something) {
		for _, a := range alarms() {
			for _, s := range row {
				if s.ack {
					a, _ = alarm.Ack(a)
					continue
				}
				a, _ = checkStep(t, l, a, s.value)
			}
		}
	})
}

// P8.3

func TestAck(t *testing.T) {
	for _, s := range states() {
		for range 2 {
			got, did := alarm.Ack(api.Alarm{State: s, Waits: true})
			if !did || got != (api.Alarm{State: s}) {
				t.Errorf("Ack of the State %d that waits is %v, %v", s, got, did)
			}
			got, did = alarm.Ack(api.Alarm{State: s})
			if did || got != (api.Alarm{State: s}) {
				t.Errorf("Ack of the State %d is %v, %v", s, got, did)
			}
		}
	}
}

// P8.4

func TestAnEventIsAnotherAlarm(t *testing.T) {
	for _, l := range append(rightLimits(), wrongLimits()...) {
		for _, a := range alarms() {
			for _, v := range edges(l) {
				if next, event := alarm.Step(l, a, v); (event != 0) != (next != a) || event < 0 || event > 3 {
					t.Fatalf("Step(%v, %v, %d) is %v, %d", l, a, v, next, event)
				}
			}
		}
	}
}

func TestTheSameValueMakesNoEvent(t *testing.T) {
	for _, l := range append(rightLimits(), wrongLimits()...) {
		for _, a := range alarms() {
			for _, v := range edges(l) {
				next, _ := alarm.Step(l, a, v)
				if again, event := alarm.Step(l, next, v); event != 0 || again != next {
					t.Fatalf("%v, %v, %d: behind %v the same value makes %v, %d", l, a, v, next, again, event)
				}
			}
		}
	}
	eachRow(func(l api.Limits, row []something) {
		var a api.Alarm
		for _, s := range row {
			a, _ = happen(l, a, s)
			if again, event := happen(l, a, s); event != 0 || again != a {
				t.Fatalf("%v: behind %v the same once more makes %v, %d", l, a, again, event)
			}
		}
	})
}

// P8.5

func TestValuesThatAreNeitherMakeNoEvent(t *testing.T) {
	eachStep(func(l api.Limits, a api.Alarm, v int) {
		if a.State != 0 || isLow(l, v) || isHigh(l, v) {
			return
		}
		if next, event := alarm.Step(l, a, v); event != 0 || next != a {
			t.Fatalf("Step(%v, %v, %d) is %v, %d", l, a, v, next, event)
		}
	})
}

func TestALatchedAlarmIsNotClearedUntilItIsAcknowledged(t *testing.T) {
	eachStep(func(l api.Limits, a api.Alarm, v int) {
		next, event := alarm.Step(latched(l), a, v)
		if a.Waits && (event == 3 || !next.Waits || a.State != 0 && next.State == 0) {
			t.Fatalf("Step(%v, %v, %d) is %v, %d", latched(l), a, v, next, event)
		}
	})
	eachRow(func(l api.Limits, row []something) {
		l = latched(l)
		raised := false
		var a api.Alarm
		for _, s := range row {
			next, event := happen(l, a, s)
			if raised && event == 3 {
				t.Fatalf("%v: cleared in %v, though nobody acknowledged", l, row)
			}
			raised = !s.ack && (raised || event != 0 && event != 3)
			a = next
		}
	})
}

func TestAnAcknowledgedAlarmIsCleared(t *testing.T) {
	eachStep(func(l api.Limits, a api.Alarm, v int) {
		a, _ = alarm.Ack(a)
		if a.State == 0 || isLow(l, v) || isHigh(l, v) {
			return
		}
		back := a.State == 1 && backLow(l, v) || a.State == 2 && backHigh(l, v)
		if next, event := alarm.Step(l, a, v); (event == 3) != back || (next == api.Alarm{}) != back {
			t.Fatalf("Step(%v, %v, %d) is %v, %d", l, a, v, next, event)
		}
	})
}

// P8.6

// raisedTwice tells the event of a side that was raised twice without a value between that is back from it, or 0.
func raisedTwice(l api.Limits, row []something) int {
	var a api.Alarm
	var up [3]bool // by the event: raised, and no value was back since
	for _, s := range row {
		if !s.ack && backLow(l, s.value) {
			up[1] = false
		}
		if !s.ack && backHigh(l, s.value) {
			up[2] = false
		}
		next, event := happen(l, a, s)
		a = next
		if event != 1 && event != 2 {
			continue
		}
		if up[event] {
			return event
		}
		up[event] = true
	}
	return 0
}

func TestASideIsRaisedAgainOnlyBehindAValueThatIsBack(t *testing.T) {
	check := func(l api.Limits, row []something) {
		if event := raisedTwice(l, row); event != 0 {
			t.Fatalf("%v: the event %d twice in %v", l, event, row)
		}
	}
	eachRow(check)
	shortRows(check)
}
