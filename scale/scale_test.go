package scale_test

import (
	"math"
	"math/big"
	"math/rand"
	"slices"
	"testing"

	"outstation/api"
	"outstation/scale"
)

// kinds are all kinds of scales that may be, each with the plainest numbers.
func kinds() []api.Scale {
	return []api.Scale{
		{Mul: 1, Div: 1},
		{Signed: true, Mul: 1, Div: 1},
		{Wide: true, Mul: 1, Div: 1},
		{Wide: true, Signed: true, Mul: 1, Div: 1},
		{Wide: true, Swap: true, Mul: 1, Div: 1},
		{Wide: true, Signed: true, Swap: true, Mul: 1, Div: 1},
	}
}

// with is a scale of that kind with such numbers.
func with(kind api.Scale, mul, div, add int) api.Scale {
	kind.Mul, kind.Div, kind.Add = mul, div, add
	return kind
}

// rightScales are scales of every kind, their numbers at the ends and between.
func rightScales() []api.Scale {
	var out []api.Scale
	for _, k := range kinds() {
		for _, mul := range []int{-1000000, -999999, -17, -3, -2, -1, 1, 2, 3, 10, 17, 999999, 1000000} {
			for _, div := range []int{1, 2, 3, 4, 10, 17, 999999, 1000000} {
				for _, add := range []int{-1 << 40, -1<<40 + 1, -1, 0, 1, 5, 1<<40 - 1, 1 << 40} {
					out = append(out, with(k, mul, div, add))
				}
			}
		}
	}
	return out
}

// wrongScales are scales that may not be, most of them for one reason alone.
func wrongScales() []api.Scale {
	out := []api.Scale{{}, {Wide: true, Signed: true, Swap: true}}
	for _, k := range kinds() {
		for _, mul := range []int{math.MinInt, -1 << 40, -1000001, 0, 1000001, 1 << 40, math.MaxInt} {
			out = append(out, with(k, mul, 1, 0))
		}
		for _, div := range []int{math.MinInt, -1000000, -2, -1, 0, 1000001, 1 << 40, math.MaxInt} {
			out = append(out, with(k, 1, div, 0))
		}
		for _, add := range []int{math.MinInt, -1<<40 - 1, 1<<40 + 1, math.MaxInt} {
			out = append(out, with(k, 1, 1, add))
		}
		out = append(out, with(k, math.MinInt, math.MinInt, math.MinInt), with(k, 0, 0, math.MaxInt))
	}
	return append(out, api.Scale{Swap: true, Mul: 1, Div: 1}, api.Scale{Swap: true, Signed: true, Mul: -1000000, Div: 1000000, Add: 1 << 40})
}

// size is how many words a number of that scale has.
func size(s api.Scale) int {
	if s.Wide {
		return 2
	}
	return 1
}

// numberOf is what the chapter says that words are, as the kinds of ints have it.
func numberOf(s api.Scale, words []uint16) int {
	if !s.Wide {
		if s.Signed {
			return int(int16(words[0]))
		}
		return int(words[0])
	}
	high, low := words[0], words[1]
	if s.Swap {
		high, low = low, high
	}
	if s.Signed {
		return int(int16(high))*65536 + int(low)
	}
	return int(high)*65536 + int(low)
}

// ends are the lowest and the highest number of that scale's words.
func ends(s api.Scale) (int, int) {
	switch {
	case s.Wide && s.Signed:
		return -2147483648, 2147483647
	case s.Wide:
		return 0, 4294967295
	case s.Signed:
		return -32768, 32767
	}
	return 0, 65535
}

// edgeWords are words at whose places something changes, and some between.
func edgeWords() []uint16 {
	return []uint16{0, 1, 2, 0xFF, 0x100, 0x1234, 0x7FFE, 0x7FFF, 0x8000, 0x8001, 0xABCD, 0xFFFE, 0xFFFF}
}

// wordLists are words of that scale: all of one word; of two words each one with two others, on either side, and all pairs of edges.
func wordLists(s api.Scale) [][]uint16 {
	var out [][]uint16
	for v := range 1 << 16 {
		w := uint16(v)
		if !s.Wide {
			out = append(out, []uint16{w})
			continue
		}
		for _, other := range []uint16{0x1234, 0xFFFE} {
			out = append(out, []uint16{w, other}, []uint16{other, w})
		}
	}
	for _, first := range edgeWords() {
		for _, second := range edgeWords() {
			if s.Wide {
				out = append(out, []uint16{first, second})
			}
		}
	}
	return out
}

// numbers are numbers of that scale's words, from the lowest to the highest: all of one word, some of two.
func numbers(s api.Scale) []int {
	low, high := ends(s)
	step := 1
	if s.Wide {
		step = 65521
	}
	var out []int
	for v := low; v < high; v += step {
		out = append(out, v)
	}
	return append(out, high)
}

// raws are numbers that have a value, in their order: the ends, those about 0 and about the ends of words, and a sample alike in every run.
func raws() []int {
	out := []int{-1 << 31, -1<<31 + 1, 1<<32 - 2, 1<<32 - 1, 1<<31 - 1, 1 << 31}
	for _, middle := range []int{-65536, -32768, 0, 32768, 65536, 1000000, -1000000} {
		for d := -6; d <= 6; d++ {
			out = append(out, middle+d)
		}
	}
	r := rand.New(rand.NewSource(6))
	for range 40 {
		out = append(out, int(r.Int63n(1<<32+1<<31))-1<<31, r.Intn(4001)-2000)
	}
	slices.Sort(out)
	return slices.Compact(out)
}

// beyond are numbers that have no value.
func beyond() []int {
	return []int{math.MinInt, math.MinInt + 1, -1 << 40, -1 << 32, -1<<31 - 2, -1<<31 - 1, 1 << 32, 1<<32 + 1, 1 << 40, 1 << 62, math.MaxInt - 1, math.MaxInt}
}

// uncut is what the chapter says a value is that nothing is cut of, in true numbers: the quotient cut towards 0, and one farther where half or more was cut off.
func uncut(s api.Scale, raw int) *big.Int {
	product := new(big.Int).Mul(big.NewInt(int64(raw)), big.NewInt(int64(s.Mul)))
	div := big.NewInt(int64(s.Div))
	quotient, rest := new(big.Int).QuoRem(product, div, new(big.Int))
	if rest.Lsh(rest.Abs(rest), 1).Cmp(div) >= 0 {
		quotient.Add(quotient, big.NewInt(int64(product.Sign())))
	}
	return quotient.Add(quotient, big.NewInt(int64(s.Add)))
}

// valueOf is what the chapter says a value is, and whether it was cut.
func valueOf(s api.Scale, raw int) (int, bool) {
	v, top := uncut(s, raw), big.NewInt(1<<40)
	if v.CmpAbs(top) <= 0 {
		return int(v.Int64()), false
	}
	return v.Sign() * 1 << 40, true
}

// reads says what Raw must answer.
func reads(t *testing.T, s api.Scale, words []uint16, want int, no api.Errno) {
	t.Helper()
	for range 2 { // twice: an answer hangs on the arguments alone
		if n, e := scale.Raw(s, words); n != want || e != no {
			t.Fatalf("Raw of %+v, %x: %d, %d, not %d, %d", s, words, n, e, want, no)
		}
	}
}

// lays says what Words must answer.
func lays(t *testing.T, s api.Scale, raw int, want []uint16, no api.Errno) {
	t.Helper()
	for range 2 {
		if l, e := scale.Words(s, raw); !slices.Equal(l, want) || e != no {
			t.Fatalf("Words of %+v, %d: %x, %d, not %x, %d", s, raw, l, e, want, no)
		}
	}
}

// means says what Value must answer.
func means(t *testing.T, s api.Scale, raw, want int, no api.Errno) {
	t.Helper()
	for range 2 {
		if v, e := scale.Value(s, raw); v != want || e != no {
			t.Fatalf("Value of %+v, %d: %d, %d, not %d, %d", s, raw, v, e, want, no)
		}
	}
}

// P6.1

func TestCheck(t *testing.T) {
	for _, s := range rightScales() {
		if e := scale.Check(s); e != api.OK {
			t.Errorf("%+v may be: %d", s, e)
		}
	}
	for _, s := range wrongScales() {
		if e := scale.Check(s); e != api.ErrScale {
			t.Errorf("%+v may not be: %d", s, e)
		}
	}
}

// Every mixture of numbers at their ends, one beyond and far beyond, with every mixture of the rest.
func TestCheckEvery(t *testing.T) {
	yes := []bool{false, true}
	for _, mul := range []int{math.MinInt, -1000001, -1000000, -1, 0, 1, 1000000, 1000001, math.MaxInt} {
		for _, div := range []int{math.MinInt, -1000000, -1, 0, 1, 2, 999999, 1000000, 1000001, math.MaxInt} {
			for _, add := range []int{math.MinInt, -1<<40 - 1, -1 << 40, 0, 1 << 40, 1<<40 + 1, math.MaxInt} {
				for flags := range 8 {
					s := api.Scale{Wide: yes[flags&1], Signed: yes[flags>>1&1], Swap: yes[flags>>2], Mul: mul, Div: div, Add: add}
					want := api.ErrScale
					if mul != 0 && -1000000 <= mul && mul <= 1000000 && 1 <= div && div <= 1000000 && -1<<40 <= add && add <= 1<<40 && (s.Wide || !s.Swap) {
						want = api.OK
					}
					if e := scale.Check(s); e != want {
						t.Fatalf("Check of %+v: %d, not %d", s, e, want)
					}
				}
			}
		}
	}
}

// The scale's error is told ahead of a wrong count, and of numbers that are out of their place.
func TestScaleFirst(t *testing.T) {
	for _, s := range wrongScales() {
		for n := range 4 {
			reads(t, s, make([]uint16, n), 0, api.ErrScale)
		}
		for _, raw := range append(beyond(), 0, 1, -1, 65536) {
			lays(t, s, raw, nil, api.ErrScale)
			means(t, s, raw, 0, api.ErrScale)
		}
	}
}

// P6.2

func TestRawExamples(t *testing.T) {
	one, signed := api.Scale{Mul: 1, Div: 1}, api.Scale{Signed: true, Mul: 1, Div: 1}
	wide, both := api.Scale{Wide: true, Mul: 1, Div: 1}, api.Scale{Wide: true, Signed: true, Mul: 1, Div: 1}
	swap, all := api.Scale{Wide: true, Swap: true, Mul: 1, Div: 1}, api.Scale{Wide: true, Signed: true, Swap: true, Mul: 1, Div: 1}
	for _, c := range []struct {
		s     api.Scale
		words []uint16
		raw   int
	}{
		{one, []uint16{0}, 0}, {one, []uint16{32767}, 32767}, {one, []uint16{32768}, 32768}, {one, []uint16{65535}, 65535},
		{signed, []uint16{0}, 0}, {signed, []uint16{32767}, 32767}, {signed, []uint16{0x8000}, -32768}, {signed, []uint16{0x8001}, -32767}, {signed, []uint16{65535}, -1},
		{wide, []uint16{1, 2}, 65538}, {wide, []uint16{0, 0}, 0}, {wide, []uint16{0, 0xFFFF}, 65535}, {wide, []uint16{1, 0}, 65536}, {wide, []uint16{0x7FFF, 0xFFFF}, 1<<31 - 1}, {wide, []uint16{0x8000, 0}, 1 << 31}, {wide, []uint16{0xFFFF, 0xFFFF}, 1<<32 - 1},
		{both, []uint16{0xFFFF, 0xFFFE}, -2}, {both, []uint16{0, 0x8000}, 32768}, {both, []uint16{0, 0xFFFF}, 65535}, {both, []uint16{0x7FFF, 0xFFFF}, 1<<31 - 1}, {both, []uint16{0x8000, 0}, -1 << 31}, {both, []uint16{0xFFFF, 0}, -65536}, {both, []uint16{0xFFFF, 0xFFFF}, -1},
		{swap, []uint16{1, 2}, 131073}, {swap, []uint16{0xFFFF, 0}, 65535}, {swap, []uint16{0, 1}, 65536}, {swap, []uint16{0, 0x8000}, 1 << 31}, {swap, []uint16{0xFFFE, 0xFFFF}, 1<<32 - 2},
		{all, []uint16{0xFFFE, 0xFFFF}, -2}, {all, []uint16{0x8000, 0}, 32768}, {all, []uint16{0, 0x8000}, -1 << 31}, {all, []uint16{0xFFFF, 0x7FFF}, 1<<31 - 1}, {all, []uint16{1, 0x8000}, -1<<31 + 1},
	} {
		reads(t, c.s, c.words, c.raw, api.OK)
		lays(t, c.s, c.raw, c.words, api.OK)
	}
}

func TestRaw(t *testing.T) {
	for _, s := range kinds() {
		for _, words := range wordLists(s) {
			reads(t, s, words, numberOf(s, words), api.OK)
		}
	}
}

func TestRawCount(t *testing.T) {
	for _, s := range kinds() {
		for _, n := range []int{0, 1, 2, 3, 4, 16, 65537} {
			for _, w := range edgeWords() {
				if n != size(s) {
					reads(t, s, slices.Repeat([]uint16{w}, n), 0, api.ErrCount)
				}
			}
		}
		reads(t, s, nil, 0, api.ErrCount)
	}
}

func TestWords(t *testing.T) {
	for _, s := range kinds() {
		for _, raw := range numbers(s) {
			l, e := scale.Words(s, raw)
			if e != api.OK || len(l) != size(s) || numberOf(s, l) != raw {
				t.Fatalf("Words of %+v, %d: %x, %d", s, raw, l, e)
			}
		}
	}
}

func TestWordsRange(t *testing.T) {
	for _, s := range kinds() {
		low, high := ends(s)
		for _, raw := range append(raws(), append(beyond(), low-1, low, high, high+1, low-65536, high+65536, -1<<16, -1<<15-1, 1<<15, 1<<16, 1<<16+7, -1<<32+7)...) {
			if low <= raw && raw <= high {
				if l, e := scale.Words(s, raw); e != api.OK || numberOf(s, l) != raw {
					t.Fatalf("Words of %+v, %d: %x, %d", s, raw, l, e)
				}
			} else {
				lays(t, s, raw, nil, api.ErrRange)
			}
		}
		for d := 1; d <= 1000; d++ {
			lays(t, s, low-d, nil, api.ErrRange)
			lays(t, s, high+d, nil, api.ErrRange)
		}
	}
}

// What a number's value is says nothing of its words.
func TestWordsOfAnyValue(t *testing.T) {
	for i, s := range rightScales() {
		low, high := ends(s)
		for _, raw := range []int{low, low + i, high - i, high} {
			l, e := scale.Words(s, raw)
			if e != api.OK || numberOf(s, l) != raw {
				t.Fatalf("Words of %+v, %d: %x, %d", s, raw, l, e)
			}
			reads(t, s, l, raw, api.OK)
		}
		lays(t, s, low-1, nil, api.ErrRange)
		lays(t, s, high+1, nil, api.ErrRange)
		for n := range 4 {
			if n != size(s) {
				reads(t, s, make([]uint16, n), 0, api.ErrCount)
			}
		}
	}
}

// P6.3

func TestValueExamples(t *testing.T) {
	const top = 1 << 40
	for _, c := range []struct {
		mul, div, add int
		raw, want     int
	}{
		{1, 2, 10, 3, 12}, {1, 2, 10, -3, 8}, {1, 2, 10, 2, 11}, {1, 2, 10, 1, 11}, {1, 2, 10, -1, 9},
		{5, 10, -1, 1, 0}, {5, 10, -1, -1, -2}, {5, 10, -1, 3, 1}, {5, 10, -1, -3, -3},
		{1, 2, 0, 1, 1}, {1, 2, 0, -1, -1}, {-1, 2, 0, 1, -1}, {-1, 2, 0, -1, 1}, {1, 2, 0, 0, 0}, // half way, on each side
		{1, 4, 0, 1, 0}, {1, 4, 0, 2, 1}, {1, 4, 0, 3, 1}, {1, 4, 0, 5, 1}, {1, 4, 0, 6, 2}, {1, 4, 0, -1, 0}, {1, 4, 0, -2, -1}, {1, 4, 0, -5, -1}, {1, 4, 0, -6, -2},
		{1, 3, 0, 1, 0}, {1, 3, 0, 2, 1}, {1, 3, 0, 4, 1}, {1, 3, 0, 5, 2}, {1, 3, 0, -1, 0}, {1, 3, 0, -2, -1}, {-1, 3, 0, 5, -2}, {-1, 3, 0, -4, 1}, // a Div of which there is no half
		{1, 1000000, 0, 499999, 0}, {1, 1000000, 0, 500000, 1}, {1, 1000000, 0, -499999, 0}, {1, 1000000, 0, -500000, -1}, {1, 1000000, 0, 1500000, 2}, {1, 1000000, 0, 1499999, 1},
		{1, 999999, 0, 499999, 0}, {1, 999999, 0, 500000, 1},
		{1, 1, 0, -1 << 31, -1 << 31}, {1, 1, 0, 1<<32 - 1, 1<<32 - 1}, {-1, 1, 0, 1<<32 - 1, -1<<32 + 1}, {-1, 1, 0, -1 << 31, 1 << 31},
		{1000000, 1000000, 7, 1<<32 - 1, 1<<32 + 6}, {-1000000, 1000000, 7, -1 << 31, 1<<31 + 7}, {1000000, 999999, 0, 1<<32 - 1, 4294971590},
		{1, 1, top, 0, top}, {1, 1, top, 1, top}, {1, 1, top, -1, top - 1}, {1, 1, top, -1 << 31, top - 1<<31}, {1, 1, top - 1, 1, top}, {1, 1, top - 1, 2, top}, // cut above
		{1, 1, -top, 0, -top}, {1, 1, -top, -1, -top}, {1, 1, -top, 1, -top + 1}, {1, 1, -top + 1, -1, -top}, {1, 1, -top + 1, -2, -top}, // cut below
		{1, 2, top, 1, top}, {1, 2, top, -1, top - 1}, {1, 2, -top, 1, -top + 1}, {1, 2, -top, -1, -top},
		{1000000, 1, 0, 1<<32 - 1, top}, {1000000, 1, 0, -1 << 31, -top}, {-1000000, 1, 0, 1<<32 - 1, -top}, {-1000000, 1, 0, -1 << 31, top}, {1000000, 1, top, 1<<32 - 1, top}, {-1000000, 1, -top, 1<<32 - 1, -top},
		{1000000, 1, 0, 1099511, 1099511000000}, {1000000, 1, 0, 1099512, top}, {1000000, 1, 0, -1099511, -1099511000000}, {1000000, 1, 0, -1099512, -top},
		{1000000, 1, -top, 2199023, 1099511372224}, {1000000, 1, -top, 2199024, top}, {-1000000, 1, top, 2199023, -1099511372224}, {-1000000, 1, top, 2199024, -top}, // the sum is cut, and not what Add is added to
	} {
		for _, k := range kinds() {
			means(t, with(k, c.mul, c.div, c.add), c.raw, c.want, api.OK)
		}
	}
}

func TestValue(t *testing.T) {
	cuts := map[int]int{}
	list := raws()
	for _, s := range rightScales() {
		for _, raw := range list {
			want, cut := valueOf(s, raw)
			means(t, s, raw, want, api.OK)
			if cut {
				cuts[want]++
			}
		}
	}
	if cuts[1<<40] == 0 || cuts[-1<<40] == 0 {
		t.Errorf("values were cut %v times", cuts)
	}
}

// A raw number has a value whether or not it is the number of words of that scale.
func TestValueRange(t *testing.T) {
	for _, s := range rightScales() {
		for _, raw := range beyond() {
			means(t, s, raw, 0, api.ErrRange)
		}
		for _, raw := range []int{-1 << 31, 1<<32 - 1} {
			want, _ := valueOf(s, raw)
			means(t, s, raw, want, api.OK)
		}
	}
}

// nearestByTrial is the whole number that is the least away from a divided by b, found among those that may be.
func nearestByTrial(a, b int) int {
	abs := func(v int) int { return max(v, -v) }
	best := 0
	for v := -abs(a); v <= abs(a); v++ {
		away, least := abs(v*b-a), abs(best*b-a)
		if away < least || away == least && abs(v) > abs(best) {
			best = v
		}
	}
	return best
}

func TestNearest(t *testing.T) {
	for mul := -6; mul <= 6; mul++ {
		for div := 1; div <= 13; div++ {
			for raw := -20; raw <= 20; raw++ {
				for _, add := range []int{0, 1, -1, 1000} {
					if mul != 0 {
						means(t, api.Scale{Mul: mul, Div: div, Add: add}, raw, nearestByTrial(raw*mul, div)+add, api.OK)
					}
				}
			}
		}
	}
}

// P6.4

func TestNumberBack(t *testing.T) {
	for _, s := range kinds() {
		for _, raw := range numbers(s) {
			l, e := scale.Words(s, raw)
			if e != api.OK {
				t.Fatalf("Words of %+v, %d: %d", s, raw, e)
			}
			reads(t, s, l, raw, api.OK)
		}
	}
}

func TestWordsBack(t *testing.T) {
	for _, s := range kinds() {
		for _, words := range wordLists(s) {
			raw, e := scale.Raw(s, words)
			if e != api.OK {
				t.Fatalf("Raw of %+v, %x: %d", s, words, e)
			}
			lays(t, s, raw, words, api.OK)
			if _, e := scale.Value(s, raw); e != api.OK { // the number of any words has a value
				t.Fatalf("Value of %+v, %d: %d", s, raw, e)
			}
		}
	}
}

// P6.5

func TestNearby(t *testing.T) {
	list := raws()
	for _, s := range rightScales() {
		for _, raw := range list {
			v, e := scale.Value(s, raw)
			if e != api.OK {
				t.Fatalf("Value of %+v, %d: %d", s, raw, e)
			}
			if _, cut := valueOf(s, raw); cut {
				continue
			}
			away := new(big.Int).Mul(big.NewInt(int64(v-s.Add)), big.NewInt(int64(s.Div)))
			away.Sub(away, new(big.Int).Mul(big.NewInt(int64(raw)), big.NewInt(int64(s.Mul))))
			if away.Lsh(away, 1).CmpAbs(big.NewInt(int64(s.Div))) > 0 {
				t.Fatalf("Value of %+v, %d is %d: twice what it is away is %s", s, raw, v, away)
			}
		}
	}
}

func TestOrder(t *testing.T) {
	list := raws()
	for _, s := range rightScales() {
		ahead := s.Add
		for i, raw := range list {
			v, e := scale.Value(s, raw)
			if e != api.OK {
				t.Fatalf("Value of %+v, %d: %d", s, raw, e)
			}
			if i > 0 && (s.Mul > 0 && v < ahead || s.Mul < 0 && v > ahead) {
				t.Fatalf("Value of %+v, %d is %d, and that of the number ahead is %d", s, raw, v, ahead)
			}
			ahead = v
		}
	}
}

func TestNegative(t *testing.T) {
	list := raws()
	for _, s := range rightScales() {
		for _, raw := range list {
			v, e := scale.Value(s, raw)
			if e != api.OK {
				t.Fatalf("Value of %+v, %d: %d", s, raw, e)
			}
			means(t, with(s, -s.Mul, s.Div, -s.Add), raw, -v, api.OK)
		}
	}
}

// R3

// roomy is words with spare room behind their end that is filled, and the whole of that memory.
func roomy(words []uint16) ([]uint16, []uint16) {
	whole := append(slices.Clone(words), 0xA5A5, 0x5A5A, 0x8001, 0xA5A5)
	return whole[:len(words)], whole
}

func TestRawMemory(t *testing.T) {
	for _, s := range append(kinds(), wrongScales()...) {
		for n := range 4 {
			for _, w := range edgeWords() {
				in, whole := roomy(slices.Repeat([]uint16{w}, n))
				before := slices.Clone(whole)
				one, e1 := scale.Raw(s, in)
				two, e2 := scale.Raw(s, slices.Clone(in)) // what lies behind the end is not looked at
				if one != two || e1 != e2 || !slices.Equal(whole, before) {
					t.Fatalf("Raw of %+v, %x: %d, %d, then %d, %d, and %x became %x", s, in, one, e1, two, e2, before, whole)
				}
			}
		}
	}
}

func TestWordsMemory(t *testing.T) {
	for _, s := range kinds() {
		low, high := ends(s)
		for _, raw := range []int{low, 0, 7, high} {
			one, _ := scale.Words(s, raw)
			two, _ := scale.Words(s, raw)
			want := slices.Clone(two)
			one = one[:cap(one)]
			for i := range one {
				one[i] = ^one[i]
			}
			if !slices.Equal(two, want) {
				t.Fatalf("two answers of Words of %+v, %d share memory", s, raw)
			}
			lays(t, s, raw, want, api.OK)
		}
	}
}
