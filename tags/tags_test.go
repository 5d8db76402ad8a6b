package tags_test

import (
	"bytes"
	"math"
	"slices"
	"strconv"
	"strings"
	"testing"
	"unicode/utf8"

	"outstation/alarm"
	"outstation/api"
	"outstation/band"
	"outstation/scale"
	"outstation/tags"
)

const (
	least = math.MinInt
	most  = math.MaxInt
	top   = 1 << 40
)

// The bytes that a name may begin with, and those of which the rest of it may be.
const (
	firsts = "ABCDEFGHIJKLMNOPQRSTUVWXYZabcdefghijklmnopqrstuvwxyz"
	laters = firsts + "0123456789_.-"
)

// isName says, by the chapter's words, whether a text is a name.
func isName(s string) bool {
	if len(s) == 0 || len(s) > 16 || strings.IndexByte(firsts, s[0]) < 0 {
		return false
	}
	for at := range len(s) {
		if strings.IndexByte(laters, s[at]) < 0 {
			return false
		}
	}
	return true
}

// widthOf is, by the chapter's words, a tag's width.
func widthOf(t api.Tag) int {
	if (t.Kind == 3 || t.Kind == 4) && t.Scale.Wide {
		return 2
	}
	return 1
}

// bitScale says whether a scale is the one that a bit has.
func bitScale(s api.Scale) bool {
	return s.Mul == 1 && s.Div == 1 && s.Add == 0 && !s.Wide && !s.Signed && !s.Swap
}

// errorOf is, by the chapter's words, what is wrong with a tag.
func errorOf(t api.Tag) api.Errno {
	for _, x := range []struct {
		wrong bool
		errno api.Errno
	}{
		{!isName(t.Name), 8},
		{t.Unit < 1 || t.Unit > 247, 24},
		{t.Kind != 1 && t.Kind != 2 && t.Kind != 3 && t.Kind != 4, 28},
		{t.Addr < 0 || t.Addr > 65535 || t.Addr == 65535 && widthOf(t) == 2, 21},
		{t.Every < 1 || t.Every > 1048576, 3},
		{scale.Check(t.Scale) != 0, 25},
		{(t.Kind == 1 || t.Kind == 2) && !bitScale(t.Scale), 25},
		{band.Check(t.Band) != 0, 26},
		{alarm.Check(t.Limits) != 0, 27},
	} {
		if x.wrong {
			return x.errno
		}
	}
	return 0
}

// errorOfAll is, by the chapter's words, what is wrong with a table, and where.
func errorOfAll(l []api.Tag) (api.Errno, int) {
	if len(l) > 64 {
		return 34, 0
	}
	for i := range l {
		if errno := errorOf(l[i]); errno != 0 {
			return errno, i
		}
		if i == 0 {
			continue
		}
		switch bytes.Compare([]byte(l[i].Name), []byte(l[i-1].Name)) {
		case 0:
			return 7, i
		case -1:
			return 29, i
		}
	}
	return 0, 0
}

// placeOf is, by the chapter's words, the place of a name.
func placeOf(l []api.Tag, name string) int {
	place := -1
	for i := len(l) - 1; i >= 0; i-- {
		if l[i].Name == name {
			place = i
		}
	}
	return place
}

// one is a right tag of that name.
func one(name string) api.Tag {
	return api.Tag{Name: name, Unit: 17, Kind: 3, Addr: 107, Every: 2, Scale: api.Scale{Mul: 1, Div: 1}}
}

// full is a right tag of which no field is 0 that need not be.
func full(name string) api.Tag {
	return api.Tag{
		Name: name, Unit: 247, Kind: 4, Addr: 65534, Every: 1 << 20,
		Scale:  api.Scale{Wide: true, Signed: true, Swap: true, Mul: -3, Div: 10, Add: -40},
		Band:   api.Band{Dead: 3, Quiet: 9},
		Limits: api.Limits{UseLow: true, UseHigh: true, Latch: true, Low: 5, High: 20, Hyst: 2},
	}
}

// list is a list of right tags of these names; no two of them are alike, also where they have one name.
func list(names ...string) []api.Tag {
	var out []api.Tag
	for i, name := range names {
		t := one(name)
		if i%2 > 0 {
			t = full(name)
		}
		t.Every = i + 1
		out = append(out, t)
	}
	return out
}

// rising are n names, in order, each of them another one.
func rising(n int) []string {
	var out []string
	for i := range n {
		out = append(out, "tag."+strconv.Itoa(1000+i))
	}
	return out
}

// roomy is a list with the same tags and with others in the spare room behind its end.
func roomy(l []api.Tag) []api.Tag {
	out := append(slices.Clone(l), full("a"), api.Tag{}, one("zz"), one(""))
	return out[:len(l)]
}

// checkList holds what CheckAll and Find, called twice, say of a list against the chapter's words, and tells what CheckAll said.
func checkList(t *testing.T, l []api.Tag, names ...string) (api.Errno, int) {
	t.Helper()
	given := roomy(l)
	before := slices.Clone(given[:cap(given)])
	want, at := errorOfAll(l)
	for range 2 {
		if errno, i := tags.CheckAll(given); errno != want || i != at {
			t.Fatalf("CheckAll of %d tags, %v, is %d, %d, not %d, %d", len(l), l, errno, i, want, at)
		}
		for _, name := range names {
			if i := tags.Find(given, name); i != placeOf(l, name) {
				t.Fatalf("Find of %q in %d tags, %v, is %d", name, len(l), l, i)
			}
		}
	}
	if !slices.Equal(before, given[:cap(given)]) {
		t.Fatalf("a list of %d tags was changed: %v", len(l), l)
	}
	return want, at
}

// P9.1

// checkName holds an answer of Name, given twice, against the chapter's words.
func checkName(t *testing.T, s string) {
	t.Helper()
	for range 2 {
		if got := tags.Name(s); got != isName(s) {
			t.Fatalf("Name(%q) is %v", s, got)
		}
	}
}

func TestNameOfWords(t *testing.T) {
	for _, x := range []struct {
		s    string
		want bool
	}{
		{"a", true}, {"Tank1.level-2_x", true}, {"1a", false}, {"", false}, {"abcdefghijklmnopq", false}, {"a b", false},
		{"abcdefghijklmnop", true}, {"A", true}, {"Z", true}, {"z", true}, {"a0", true}, {"a9", true},
		{"a_", true}, {"a.", true}, {"a-", true}, {"_a", false}, {".a", false}, {"-a", false}, {"0a", false}, {"9a", false},
		{"a__..--__..--_9", true}, {"a---------------", true}, {"----------------", false},
		{" a", false}, {"a ", false}, {" ", false}, {"\x00", false}, {"a\x00", false}, {"\x00a", false}, {"a\n", false}, {"a\t", false},
		{"a,b", false}, {"a/b", false}, {"a+b", false}, {"a:b", false}, {"a@", false}, {"a[", false}, {"a^", false}, {"a`", false}, {"a{", false}, {"a~", false}, {"a\x7F", false},
		{"@", false}, {"[", false}, {"`", false}, {"{", false}, {"/", false}, {":", false},
		{"é", false}, {"aé", false}, {"éa", false}, {"aéb", false}, {"\xFF", false}, {"a\xFF", false}, {"\xFFa", false}, {"a\xFFb", false},
	} {
		if got := tags.Name(x.s); got != x.want || isName(x.s) != x.want {
			t.Errorf("Name(%q) is %v", x.s, got)
		}
	}
}

func TestNameOfEachLength(t *testing.T) {
	for n := range 70 {
		for _, s := range []string{strings.Repeat("a", n), strings.Repeat("Z", n)} {
			if got := tags.Name(s); got != (n >= 1 && n <= 16) {
				t.Errorf("Name of %d bytes is %v", n, got)
			}
		}
	}
	for _, n := range []int{255, 256, 257, 272, 65537, 1 << 20} {
		if tags.Name(strings.Repeat("a", n)) {
			t.Errorf("Name of %d bytes", n)
		}
	}
}

func TestNameOfEachByte(t *testing.T) {
	for b := range 256 {
		c := string([]byte{byte(b)})
		for n := 1; n <= 17; n++ {
			for at := range n {
				checkName(t, strings.Repeat("m", at)+c+strings.Repeat("m", n-at-1))
			}
		}
		for second := range 256 {
			d := string([]byte{byte(second)})
			checkName(t, c+d)
			checkName(t, "a"+c+d)
			checkName(t, "a"+c+d+"z")
		}
	}
}

func TestNameOfEachLetterOfMoreThanOneByte(t *testing.T) {
	for r := rune(utf8.RuneSelf); r <= utf8.MaxRune; r++ {
		s := string(r) // of a number that is no letter, the three bytes that stand for none
		if tags.Name(s) || tags.Name("a"+s) || tags.Name(s+"a") || tags.Name("a"+s+"b") {
			t.Fatalf("Name with the letter %x", r)
		}
	}
	for _, s := range []string{"é", "š", "Ł", "ſ", "\u212A", "а", "Ａ", "９", "٣", "€", "\uFEFF", "\uFFFD", "😀"} {
		for at := range 16 {
			text := strings.Repeat("a", at) + s + strings.Repeat("a", 15-at)
			if utf8.RuneCountInString(text) != 16 || tags.Name(text) {
				t.Errorf("Name(%q), of 16 letters", text)
			}
			if cut := text[:at] + s + strings.Repeat("b", max(0, 16-at-len(s))); tags.Name(cut) {
				t.Errorf("Name(%q), of %d bytes", cut, len(cut))
			}
		}
	}
}

func TestNameOfBytesThatAreNoLetter(t *testing.T) {
	// Bytes that only follow others, beginnings without an end, letters written longer than they are, halves of pairs, and numbers beyond the last letter.
	for _, s := range []string{"\x80", "\xBF", "\xC3", "\xE2\x82", "\xF0\x9F\x98", "\xC1\xA1", "\xE0\x81\xA1", "\xC0\x80", "\xED\xA0\x80", "\xF4\x90\x80\x80", "\xFE", "\xFF", "\xFF\xFF"} {
		for _, text := range []string{s, s + "a", s + "abc", "a" + s, "abc" + s, "a" + s + "b", "abc" + s + "def", strings.Repeat("a", 16-len(s)) + s, s + strings.Repeat("a", 16-len(s))} {
			if utf8.ValidString(text) || tags.Name(text) {
				t.Errorf("Name(%q)", text)
			}
		}
	}
}

// anyKinds are the four Kinds, and numbers that are none.
func anyKinds() []int {
	return []int{1, 2, 3, 4, 0, 5, -1, -3, -4, least, most, 256 + 3, 1<<32 + 4, 1<<16 + 3}
}

func TestWidth(t *testing.T) {
	for _, kind := range anyKinds() {
		for _, x := range []api.Tag{one("t"), full("t"), {}, {Name: "1", Unit: least, Addr: most, Every: -1}} {
			for _, wide := range []bool{false, true} {
				x.Kind, x.Scale.Wide = kind, wide
				want := 1
				if wide && (kind == 3 || kind == 4) {
					want = 2
				}
				if got := tags.Width(x); got != want {
					t.Errorf("Width(%v) is %d", x, got)
				}
			}
		}
	}
}

func TestWidthOfWrongTags(t *testing.T) {
	x := full("no name")
	x.Unit, x.Addr, x.Every, x.Scale.Mul, x.Scale.Div, x.Band.Dead, x.Limits.Hyst = 0, -1, 0, 0, 0, -1, -1
	if got := tags.Width(x); got != 2 {
		t.Errorf("Width(%v) is %d", x, got)
	}
	x.Scale.Wide = false // Swap without Wide, which makes no second word
	if got := tags.Width(x); got != 1 {
		t.Errorf("Width(%v) is %d", x, got)
	}
}

// P9.2

// checkTag holds an answer of Check, given twice, against an error and against the chapter's words.
func checkTag(t *testing.T, name string, x api.Tag, want api.Errno) {
	t.Helper()
	for range 2 {
		if got := tags.Check(x); got != want || errorOf(x) != want {
			t.Fatalf("%s: Check(%v) is %d, not %d", name, x, got, want)
		}
	}
}

func TestCheckOfEachNumber(t *testing.T) {
	for _, x := range []struct {
		name  string
		set   func(x *api.Tag, v int)
		right []int
		wrong []int
		errno api.Errno
	}{
		{"Unit", func(x *api.Tag, v int) { x.Unit = v }, []int{1, 2, 17, 246, 247}, []int{least, -247, -1, 0, 248, 255, 257, 1<<32 + 1, most}, 24},
		{"Kind", func(x *api.Tag, v int) { x.Kind = v }, []int{1, 2, 3, 4}, []int{least, -4, -1, 0, 5, 6, 15, 257, 1<<32 + 3, most}, 28},
		{"Addr", func(x *api.Tag, v int) { x.Addr = v }, []int{0, 1, 9999, 32768, 65534, 65535}, []int{least, -65536, -1, 65536, 65537, 1 << 32, most}, 21},
		{"Every", func(x *api.Tag, v int) { x.Every = v }, []int{1, 2, 1000, 1<<20 - 1, 1 << 20}, []int{least, -1 << 20, -1, 0, 1<<20 + 1, 1 << 21, 1<<32 + 1, most}, 3},
	} {
		for _, v := range x.right {
			tag := one("t")
			x.set(&tag, v)
			checkTag(t, x.name, tag, 0)
		}
		for _, v := range x.wrong {
			tag := one("t")
			x.set(&tag, v)
			checkTag(t, x.name, tag, x.errno)
		}
	}
	checkTag(t, "the chapter's tag", api.Tag{Name: "t", Unit: 1, Kind: 3, Every: 1, Scale: api.Scale{Mul: 1, Div: 1}}, 0)
	checkTag(t, "no field but those that must be 0", full("t"), 0)
	checkTag(t, "nothing", api.Tag{}, 8)
}

func TestCheckOfEachName(t *testing.T) {
	for _, name := range []string{"t", "Tank1.level-2_x", "abcdefghijklmnop", "Z-"} {
		checkTag(t, "a name", one(name), 0)
		checkTag(t, "a name", full(name), 0)
	}
	for _, name := range []string{"", "1a", "-", "a b", "abcdefghijklmnopq", "é", "aé", "a\xFF", "a\n"} {
		checkTag(t, "no name", one(name), 8)
		checkTag(t, "no name", full(name), 8)
	}
}

func TestCheckOfTheLastAddresses(t *testing.T) {
	for _, kind := range anyKinds() {
		for _, wide := range []bool{false, true} {
			for _, addr := range []int{0, 65533, 65534, 65535, 65536} {
				x := one("t")
				x.Kind, x.Addr, x.Scale.Wide = kind, addr, wide
				want := api.Errno(0)
				switch {
				case kind < 1 || kind > 4:
					want = 28
				case addr == 65536, addr == 65535 && wide && kind > 2:
					want = 21
				case wide && kind < 3:
					want = 25
				}
				checkTag(t, "the last addresses", x, want)
			}
		}
	}
}

func TestCheckOfABitsScale(t *testing.T) {
	plain := api.Scale{Mul: 1, Div: 1}
	for _, x := range []struct {
		name string
		turn func(s *api.Scale)
	}{
		{"Wide", func(s *api.Scale) { s.Wide = true }},
		{"Signed", func(s *api.Scale) { s.Signed = true }},
		{"Swap and Wide", func(s *api.Scale) { s.Swap, s.Wide = true, true }},
		{"Mul 2", func(s *api.Scale) { s.Mul = 2 }},
		{"Mul -1", func(s *api.Scale) { s.Mul = -1 }},
		{"Div 2", func(s *api.Scale) { s.Div = 2 }},
		{"Add 1", func(s *api.Scale) { s.Add = 1 }},
		{"Add -1", func(s *api.Scale) { s.Add = -1 }},
		{"Mul and Div alike", func(s *api.Scale) { s.Mul, s.Div = 3, 3 }},
		{"Add, the greatest", func(s *api.Scale) { s.Add = top }},
	} {
		for kind := 1; kind <= 4; kind++ {
			tag := one("t")
			tag.Kind = kind
			checkTag(t, "a plain scale", tag, 0)
			x.turn(&tag.Scale)
			if scale.Check(tag.Scale) != 0 || tag.Scale == plain {
				t.Fatalf("%s: %v is no such scale", x.name, tag.Scale)
			}
			want := api.Errno(0)
			if kind < 3 {
				want = 25
			}
			checkTag(t, x.name, tag, want)
		}
	}
}

func TestCheckOfWhatTheLayersBelowRefuse(t *testing.T) {
	for _, x := range []struct {
		name string
		turn func(x *api.Tag)
		want api.Errno
	}{
		{"Mul 0", func(x *api.Tag) { x.Scale.Mul = 0 }, 25},
		{"Mul one beyond", func(x *api.Tag) { x.Scale.Mul = 1000001 }, 25},
		{"Div 0", func(x *api.Tag) { x.Scale.Div = 0 }, 25},
		{"Div below 0", func(x *api.Tag) { x.Scale.Div = -1 }, 25},
		{"Add one beyond", func(x *api.Tag) { x.Scale.Add = top + 1 }, 25},
		{"Add of the least int", func(x *api.Tag) { x.Scale.Add = least }, 25},
		{"Swap without Wide", func(x *api.Tag) { x.Scale.Swap, x.Scale.Wide = true, false }, 25},
		{"no scale", func(x *api.Tag) { x.Scale = api.Scale{} }, 25},
		{"Dead below 0", func(x *api.Tag) { x.Band.Dead = -1 }, 26},
		{"Dead one beyond", func(x *api.Tag) { x.Band.Dead = top + 1 }, 26},
		{"Quiet below 0", func(x *api.Tag) { x.Band.Quiet = -1 }, 26},
		{"Quiet of the greatest int", func(x *api.Tag) { x.Band.Quiet = most }, 26},
		{"Hyst below 0", func(x *api.Tag) { x.Limits.Hyst = -1 }, 27},
		{"Low without UseLow", func(x *api.Tag) { x.Limits.UseLow, x.Limits.Low = false, 3 }, 27},
		{"High one beyond", func(x *api.Tag) { x.Limits.UseHigh, x.Limits.High = true, top+1 }, 27},
		{"Hyst just High less Low", func(x *api.Tag) { x.Limits = api.Limits{UseLow: true, UseHigh: true, Low: 1, High: 5, Hyst: 4} }, 27},
	} {
		for kind := 1; kind <= 4; kind++ {
			tag := one("t")
			tag.Kind = kind
			x.turn(&tag)
			checkTag(t, x.name, tag, x.want)
			below := []api.Errno{scale.Check(tag.Scale), band.Check(tag.Band), alarm.Check(tag.Limits)}
			if below[x.want-25] != x.want {
				t.Fatalf("%s: the layer below takes it: %v", x.name, below)
			}
		}
		tag := full("t")
		x.turn(&tag)
		checkTag(t, x.name, tag, x.want)
	}
	for _, x := range []api.Tag{
		{Scale: api.Scale{Mul: -1000000, Div: 1000000, Add: -top}, Band: api.Band{Dead: top, Quiet: top}, Limits: api.Limits{UseLow: true, UseHigh: true, Low: -top, High: top, Hyst: top}},
		{Scale: api.Scale{Mul: 1000000, Div: 1, Add: top}, Band: api.Band{Dead: 1}, Limits: api.Limits{UseHigh: true, High: -top, Hyst: top}},
	} {
		tag := one("t")
		tag.Scale, tag.Band, tag.Limits = x.Scale, x.Band, x.Limits
		checkTag(t, "the ends of what the layers below take", tag, 0)
	}
}

// faults are what makes a tag wrong, each in one way, in the order in which Check looks for them.
func faults() []struct {
	turn func(x *api.Tag)
	want api.Errno
} {
	return []struct {
		turn func(x *api.Tag)
		want api.Errno
	}{
		{func(x *api.Tag) { x.Name = "1" }, 8},
		{func(x *api.Tag) { x.Unit = 248 }, 24},
		{func(x *api.Tag) { x.Kind = 5 }, 28},
		{func(x *api.Tag) { x.Addr = 65536 }, 21},
		{func(x *api.Tag) { x.Every = 0 }, 3},
		{func(x *api.Tag) { x.Scale.Div = 0 }, 25},
		{func(x *api.Tag) { x.Kind, x.Scale.Mul = 2, 2 }, 25},
		{func(x *api.Tag) { x.Band.Dead = -1 }, 26},
		{func(x *api.Tag) { x.Limits.Hyst = -1 }, 27},
	}
}

func TestTheFirstErrorIsTold(t *testing.T) {
	all := faults()
	for set := range 1 << len(all) {
		tag, want := one("t"), api.Errno(0)
		// From the last one to the first one, so that of two that turn the same field the earlier one stays.
		for i := len(all) - 1; i >= 0; i-- {
			if set>>i&1 > 0 {
				all[i].turn(&tag)
				want = all[i].want
			}
		}
		checkTag(t, strconv.FormatInt(int64(set), 2), tag, want)
	}
}

func TestCheckOfManyTags(t *testing.T) {
	scales := []api.Scale{
		{Mul: 1, Div: 1}, {Wide: true, Mul: 1, Div: 1}, {Signed: true, Mul: 1, Div: 1}, {Wide: true, Swap: true, Mul: 1, Div: 1},
		{Mul: 2, Div: 1}, {Mul: 1, Div: 2}, {Mul: 1, Div: 1, Add: 1}, {Swap: true, Mul: 1, Div: 1}, {Wide: true, Div: 1}, {},
	}
	bands := []api.Band{{}, {Dead: 5, Quiet: 9}, {Quiet: -1}}
	limits := []api.Limits{{}, {UseLow: true, Low: 3}, {Low: 3}}
	var x api.Tag
	for _, x.Name = range []string{"t", "1"} {
		for _, x.Unit = range []int{0, 1, 247, 248} {
			for _, x.Kind = range []int{0, 1, 2, 3, 4, 5} {
				for _, x.Addr = range []int{-1, 0, 65534, 65535, 65536} {
					for _, x.Every = range []int{0, 1, 1 << 20, 1<<20 + 1} {
						for _, x.Scale = range scales {
							for _, x.Band = range bands {
								for _, x.Limits = range limits {
									checkTag(t, "one of many", x, errorOf(x))
								}
							}
						}
					}
				}
			}
		}
	}
}

// P9.3

// spoilt is a list with the tag of one place made wrong.
func spoilt(l []api.Tag, at int, turn func(x *api.Tag)) []api.Tag {
	out := slices.Clone(l)
	turn(&out[at])
	return out
}

func noUnit(x *api.Tag)  { x.Unit = 0 }
func noBand(x *api.Tag)  { x.Band.Dead = -1 }
func noName(x *api.Tag)  { x.Name = "" }
func noEvery(x *api.Tag) { x.Every = 0 }

func TestCheckAllOfWords(t *testing.T) {
	for _, x := range []struct {
		name string
		l    []api.Tag
		want api.Errno
		at   int
	}{
		{"nil", nil, 0, 0},
		{"empty", []api.Tag{}, 0, 0},
		{"one", list("a"), 0, 0},
		{"one, wrong", spoilt(list("a"), 0, noUnit), 24, 0},
		{"one, nothing", []api.Tag{{}}, 8, 0},
		{"two in order", list("a", "b"), 0, 0},
		{"the chapter's b twice", list("a", "b", "b"), 7, 2},
		{"the chapter's b ahead of a", list("b", "a"), 29, 1},
		{"the first name twice", list("a", "a", "b"), 7, 1},
		{"a name three times", list("a", "a", "a"), 7, 1},
		{"a name twice, another one between", list("a", "b", "a"), 29, 2},
		{"falling", list("c", "b", "a"), 29, 1},
		{"twice ahead of one out of order", list("b", "b", "a"), 7, 1},
		{"out of order ahead of one twice", list("b", "a", "a"), 29, 1},
		{"a longer name behind", list("a", "ab", "abc"), 0, 0},
		{"a longer name ahead", list("ab", "a"), 29, 1},
		{"a longer name behind, at the end", list("abcdefghijklmno", "abcdefghijklmnop"), 0, 0},
		{"a longer name ahead, at the end", list("abcdefghijklmnop", "abcdefghijklmno"), 29, 1},
		{"longer, though above", list("ab", "b", "ba"), 0, 0},
		{"great letters ahead of small ones", list("B", "Z", "a", "z"), 0, 0},
		{"small letters ahead of great ones", list("a", "B"), 29, 1},
		{"great and small are two", list("A", "a"), 0, 0},
		{"small and great, of one letter", list("a", "A"), 29, 1},
		{"great and small behind a letter", list("aB", "ab"), 0, 0},
		{"digits as bytes", list("a10", "a9"), 0, 0},
		{"digits as numbers", list("a9", "a10"), 29, 1},
		{"all marks by their bytes", list("a", "a-", "a.", "a0", "a9", "aA", "aZ", "a_", "aa", "az"), 0, 0},
		{"a wrong tag in the middle", spoilt(list("a", "b", "c"), 1, noBand), 26, 1},
		{"a wrong tag at the end", spoilt(list("a", "b", "c"), 2, noName), 8, 2},
		{"two wrong tags", spoilt(spoilt(list("a", "b", "c"), 1, noEvery), 2, noUnit), 3, 1},
		{"a wrong tag behind a name that is twice", spoilt(list("a", "a", "c"), 2, noUnit), 7, 1},
		{"a wrong tag ahead of a name that is twice", spoilt(list("a", "b", "b"), 0, noUnit), 24, 0},
		{"a wrong tag at the same place as a name that is twice", spoilt(list("a", "b", "b"), 2, noUnit), 24, 2},
		{"a wrong tag that has the name first", spoilt(list("a", "b", "b"), 1, noUnit), 24, 1},
		{"a wrong tag at the same place as one out of order", spoilt(list("b", "a"), 1, noBand), 26, 1},
		{"a wrong tag behind one out of order", spoilt(list("b", "a", "c"), 2, noBand), 29, 1},
		{"no name, twice", []api.Tag{one("a"), one(""), one("")}, 8, 1},
	} {
		errno, at := checkList(t, x.l)
		if errno != x.want || at != x.at {
			t.Errorf("%s: the chapter's words give %d, %d", x.name, errno, at)
		}
	}
}

func TestCheckAllOfEachLength(t *testing.T) {
	for _, n := range []int{0, 1, 2, 63, 64} {
		right := list(rising(n)...)
		checkList(t, right)
		if errno, at := tags.CheckAll(right); errno != 0 || at != 0 {
			t.Errorf("%d tags: %d, %d", n, errno, at)
		}
		for at := range n {
			if errno, i := tags.CheckAll(spoilt(right, at, noBand)); errno != 26 || i != at {
				t.Errorf("%d tags, of which %d is wrong: %d, %d", n, at, errno, i)
			}
			checkList(t, spoilt(right, at, func(x *api.Tag) { x.Name = "tag.1001" }))
			checkList(t, spoilt(right, at, func(x *api.Tag) { x.Name = "tag" }))
			checkList(t, spoilt(right, at, func(x *api.Tag) { x.Name = "z" }))
		}
	}
	for _, n := range []int{65, 66, 128, 1000} {
		right := list(rising(n)...)
		for _, l := range [][]api.Tag{right, spoilt(right, 0, noUnit), spoilt(right, 3, noName), spoilt(right, n-1, noBand), make([]api.Tag, n)} {
			if errno, at := tags.CheckAll(l); errno != 34 || at != 0 {
				t.Errorf("%d tags: %d, %d", n, errno, at)
			}
		}
	}
}

// pool are right tags and wrong ones, of names that are above and below each other.
func pool() []api.Tag {
	b := full("b")
	b.Limits.Hyst = -1
	a := one("a")
	a.Unit = 0
	return []api.Tag{one("B"), one("a"), full("a"), one("ab"), full("b"), a, b, one("1")}
}

// shortLists calls a function with each list of up to four tags of the pool.
func shortLists(f func(l []api.Tag)) {
	var extend func(l []api.Tag)
	extend = func(l []api.Tag) {
		f(l)
		if len(l) == 4 {
			return
		}
		for _, x := range pool() {
			extend(append(slices.Clip(l), x))
		}
	}
	extend(nil)
}

func TestEachShortList(t *testing.T) {
	tables := 0
	shortLists(func(l []api.Tag) {
		if errno, _ := checkList(t, l, "B", "a", "ab", "b", "1", "", "c", "A"); errno == 0 {
			tables++
		}
	})
	// B, ab and b each once or not, and one of two of the name a, or neither.
	if tables != 2*2*2*3 {
		t.Errorf("%d tables", tables)
	}
}

// P9.4

func TestFindOfWords(t *testing.T) {
	wrong := spoilt(list("a", "b", "b"), 1, noUnit)
	for _, x := range []struct {
		name string
		l    []api.Tag
		find string
		want int
	}{
		{"the chapter's b, twice", list("a", "b", "b"), "b", 1},
		{"the chapter's c, in none", list("a", "b", "b"), "c", -1},
		{"the first one", list("a", "b", "c"), "a", 0},
		{"the last one", list("a", "b", "c"), "c", 2},
		{"below the first one", list("b", "c"), "a", -1},
		{"between two", list("a", "c"), "b", -1},
		{"nil", nil, "a", -1},
		{"empty", []api.Tag{}, "a", -1},
		{"nil, and no name", nil, "", -1},
		{"out of order, the first one", list("c", "a", "b"), "c", 0},
		{"out of order, the middle one", list("c", "a", "b"), "a", 1},
		{"out of order, the last one", list("c", "a", "b"), "b", 2},
		{"falling", list("d", "c", "b", "a"), "a", 3},
		{"twice, and not side by side", list("b", "a", "b"), "b", 0},
		{"twice, behind another one", list("c", "b", "a", "b"), "b", 1},
		{"a beginning of a name", list("ab", "abc"), "a", -1},
		{"a name and more", list("a", "ab"), "abc", -1},
		{"the longer one", list("a", "ab", "abc"), "ab", 1},
		{"another letter's size", list("A", "b"), "a", -1},
		{"no name, which is there", []api.Tag{one("a"), one(""), one("")}, "", 1},
		{"no name, which is not there", list("a", "b"), "", -1},
		{"bytes that are no letter", []api.Tag{one("a"), one("\xFF"), one("\xFE")}, "\xFE", 2},
		{"another byte that is no letter", []api.Tag{one("\xFF"), one("\uFFFD")}, "\uFFFD", 1},
		{"more than a name may have", []api.Tag{one(strings.Repeat("a", 16)), one(strings.Repeat("a", 40))}, strings.Repeat("a", 40), 1},
		{"blanks about it", list("a"), " a", -1},
		{"of a wrong tag", wrong, "b", 1},
		{"behind a wrong tag", spoilt(list("a", "b", "c"), 0, noUnit), "c", 2},
		{"nothings", make([]api.Tag, 70), "", 0},
		{"behind nothings", append(make([]api.Tag, 70), one("a")), "a", 70},
	} {
		if got := tags.Find(x.l, x.find); got != x.want {
			t.Errorf("%s: Find(%q) is %d", x.name, x.find, got)
		}
		checkList(t, x.l, x.find, "a", "b", "")
	}
}

func TestFindInLongLists(t *testing.T) {
	names := rising(200)
	l := list(names...)
	for i, name := range names {
		if got := tags.Find(l, name); got != i {
			t.Errorf("Find(%q) is %d", name, got)
		}
	}
	slices.Reverse(l)
	for i, name := range names {
		if got := tags.Find(append(l, l...), name); got != 199-i {
			t.Errorf("Find(%q), twice there, is %d", name, got)
		}
	}
	checkList(t, l, names...)
}

// P9.5

// few are names of a table of a few tags, some of which begin like others.
func few() []string {
	return []string{"A", "A-", "A.x", "A0", "AA", "A_", "Aa", "Z", "a", "abcdefghijklmnop"}
}

// checkTable asserts that a list is a table, in which each tag is found at its own place and none of the other names is.
func checkTable(t *testing.T, l []api.Tag, others ...string) {
	t.Helper()
	if errno, at := tags.CheckAll(l); errno != 0 || at != 0 {
		t.Fatalf("CheckAll of %v is %d, %d", l, errno, at)
	}
	for i, x := range l {
		if got := tags.Find(l, x.Name); got != i || tags.Check(x) != 0 {
			t.Fatalf("Find of %q in %v is %d", x.Name, l, got)
		}
	}
	for _, name := range others {
		if got := tags.Find(l, name); got != -1 {
			t.Fatalf("Find of %q in %v is %d", name, l, got)
		}
	}
}

func TestATableWithoutSomeOfItsTagsIsOne(t *testing.T) {
	whole := list(few()...)
	for set := range 1 << len(whole) {
		var l []api.Tag
		var others []string
		for i, x := range whole {
			if set>>i&1 > 0 {
				l = append(l, x)
			} else {
				others = append(others, x.Name)
			}
		}
		checkTable(t, l, others...)
	}
}

func TestAFullTableWithoutSomeOfItsTagsIsOne(t *testing.T) {
	whole := list(rising(64)...)
	checkTable(t, whole, "tag", "tag.", "tag.100", "tag.0999", "tag.1064", "tag.10000", "")
	for i, x := range whole {
		checkTable(t, slices.Concat(whole[:i], whole[i+1:]), x.Name)
		checkTable(t, whole[i:])
		checkTable(t, whole[:i], x.Name)
	}
	for step := 2; step <= 64; step++ {
		var l []api.Tag
		for i := 0; i < len(whole); i += step {
			l = append(l, whole[i])
		}
		checkTable(t, l, whole[1].Name)
	}
}

func TestATableOfTheListsThatThereAre(t *testing.T) {
	shortLists(func(l []api.Tag) {
		if errno, _ := tags.CheckAll(l); errno != 0 {
			return
		}
		checkTable(t, l, "A", "c", "1", "")
		for i := range l {
			checkTable(t, slices.Concat(l[:i], l[i+1:]), l[i].Name)
		}
	})
}
