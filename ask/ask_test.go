package ask_test

import (
	"bytes"
	"encoding/binary"
	"math"
	"math/rand"
	"slices"
	"testing"

	"outstation/api"
	"outstation/ask"
)

// codes are the nine.
func codes() []int { return []int{1, 2, 3, 4, 5, 6, 15, 16, 20} }

// otherCodes are about the nine, and like them in their lowest byte.
func otherCodes() []int {
	out := []int{math.MinInt, math.MinInt + 3, -20, -3, -1, 0, 43, 64, 127, 128, 254, 255, 256, 1<<32 + 3, 1<<32 + 20, math.MaxInt}
	for c := 7; c <= 30; c++ {
		if !slices.Contains(codes(), c) {
			out = append(out, c)
		}
	}
	for _, c := range codes() {
		out = append(out, c+128, c+256, c-256, c+65536)
	}
	return out
}

// most is how many a request of a code may ask for, as the chapter writes it.
func most(code int) int {
	return map[int]int{1: 2000, 2: 2000, 3: 125, 4: 125, 5: 1, 6: 1, 15: 1968, 16: 123, 20: 35}[code]
}

// request asks for n things from addr on; of code 20 for n parts of a word each.
func request(code, addr, n int) api.Ask {
	r := rand.New(rand.NewSource(int64(code*7 + addr + n)))
	a := api.Ask{Code: code, Addr: addr}
	switch code {
	case 5, 15:
		a.On = make([]bool, n)
		for i := range a.On {
			a.On[i] = r.Intn(2) == 1
		}
	case 6, 16:
		a.Set = make([]uint16, n)
		for i := range a.Set {
			a.Set[i] = uint16(r.Uint32())
		}
	case 20:
		a.Addr = 0
		for range n {
			a.Parts = append(a.Parts, api.Part{File: 1 + r.Intn(65535), Record: r.Intn(10000), Length: 1})
		}
	default:
		a.Count = n
	}
	return a
}

// files is a request for parts.
func files(l ...api.Part) api.Ask { return api.Ask{Code: 20, Parts: l} }

// counts are some of 1 to n, the ends among them.
func counts(n int) []int {
	var out []int
	for _, k := range []int{1, 2, 3, 7, 8, 9, 10, 15, 16, 17, 34, 35, 122, 123, 124, 125, 255, 256, 257, 1960, 1961, 1967, 1968, 1999, 2000} {
		if k <= n {
			out = append(out, k)
		}
	}
	return out
}

// rightAsks are right requests of every code, at the ends of all that they have and between.
func rightAsks() []api.Ask {
	r := rand.New(rand.NewSource(1))
	var out []api.Ask
	for _, c := range codes() {
		for _, n := range counts(most(c)) {
			for _, addr := range []int{0, 1, 255, 256, 32768, 65536 - n, r.Intn(65536 - n)} {
				out = append(out, request(c, addr, n))
			}
		}
	}
	for _, v := range []uint16{0, 1, 255, 256, 0xFF00, 0xFFFF} {
		out = append(out, api.Ask{Code: 6, Addr: 9, Set: []uint16{v}}, api.Ask{Code: 16, Addr: 9, Set: []uint16{v, ^v}})
	}
	for _, on := range []bool{false, true} {
		out = append(out, api.Ask{Code: 5, Addr: 65535, On: []bool{on}})
		for n := 1; n <= 20; n++ {
			out = append(out, api.Ask{Code: 15, Addr: 3, On: slices.Repeat([]bool{on}, n)})
		}
	}
	out = append(out,
		files(api.Part{File: 1, Record: 0, Length: 121}),
		files(api.Part{File: 65535, Record: 9999, Length: 1}),
		files(api.Part{File: 256, Record: 9900, Length: 100}, api.Part{File: 1, Record: 9999, Length: 1}),
		files(slices.Repeat([]api.Part{{File: 0x0606, Record: 0x0606, Length: 2}}, 35)...),
	)
	return out
}

// same says whether two requests are one: a list that is nil is one that is empty.
func same(a, b api.Ask) bool {
	return a.Code == b.Code && a.Addr == b.Addr && a.Count == b.Count &&
		slices.Equal(a.On, b.On) && slices.Equal(a.Set, b.Set) && slices.Equal(a.Parts, b.Parts)
}

// isZero says whether an answer is the zero value of its type.
func isZero(a api.Ask) bool { return same(a, api.Ask{}) }

// P3.1

// checks sees that Check and Put tell an error, and Put nothing beside it.
func checks(t *testing.T, a api.Ask, want api.Errno) {
	t.Helper()
	if errno := ask.Check(a); errno != want {
		t.Errorf("Check of %+v: %d, not %d", a, errno, want)
	}
	b, errno := ask.Put(a)
	if errno != want || want != api.OK && b != nil || want == api.OK && len(b) < 5 {
		t.Errorf("Put of %+v: % x, %d, not %d", a, b, errno, want)
	}
}

func TestCheckRight(t *testing.T) {
	for _, a := range rightAsks() {
		checks(t, a, api.OK)
	}
}

func TestCheckExample(t *testing.T) {
	checks(t, api.Ask{Code: 1, Addr: 0, Count: 1, Set: []uint16{5}}, api.ErrField)
}

// ErrCode is ahead of whatever else is wrong.
func TestCheckCode(t *testing.T) {
	for _, c := range otherCodes() {
		for _, a := range []api.Ask{
			{},
			{Addr: 1, Count: 1},
			{Addr: -1},
			{Addr: 65536, Count: -1},
			{On: []bool{true}},
			{Set: []uint16{1}},
			{Parts: []api.Part{{File: 1, Record: 0, Length: 1}}},
			{Addr: -1, Count: 1, On: []bool{true}, Set: []uint16{1}, Parts: []api.Part{{}}},
		} {
			a.Code = c
			checks(t, a, api.ErrCode)
		}
	}
}

// strays are requests like a, each with one field more that has no meaning for its code.
func strays(a api.Ask) []api.Ask {
	var out []api.Ask
	add := func(change func(*api.Ask)) {
		b := a
		change(&b)
		out = append(out, b)
	}
	reads := a.Code <= 4
	if !reads {
		for _, v := range []int{math.MinInt, -1, 1, len(a.On) + len(a.Set) + len(a.Parts), math.MaxInt} {
			if v != 0 {
				add(func(b *api.Ask) { b.Count = v })
			}
		}
	}
	if a.Code == 20 {
		for _, v := range []int{math.MinInt, -1, 1, 65535, 65536, math.MaxInt} {
			add(func(b *api.Ask) { b.Addr = v })
		}
	}
	if a.Code != 5 && a.Code != 15 {
		add(func(b *api.Ask) { b.On = []bool{false} })
		add(func(b *api.Ask) { b.On = []bool{true, false} })
	}
	if a.Code != 6 && a.Code != 16 {
		add(func(b *api.Ask) { b.Set = []uint16{0} })
		add(func(b *api.Ask) { b.Set = []uint16{1, 2} })
	}
	if a.Code != 20 {
		add(func(b *api.Ask) { b.Parts = []api.Part{{}} })
		add(func(b *api.Ask) { b.Parts = []api.Part{{File: 1, Length: 1}} })
	}
	return out
}

// ErrField is ahead of all but ErrCode.
func TestCheckField(t *testing.T) {
	for _, c := range codes() {
		for _, n := range []int{0, 1, most(c), most(c) + 1} {
			for _, addr := range []int{-1, 0, 65535, 65536} {
				for _, a := range strays(request(c, addr, n)) {
					checks(t, a, api.ErrField)
				}
			}
		}
	}
	for _, p := range []api.Part{{File: 0, Length: 1}, {File: 1, Length: 122}} {
		for _, a := range strays(files(p)) {
			checks(t, a, api.ErrField)
		}
	}
}

// A list that is empty is one that is nil: it is no stray field, and asks for nothing.
func TestCheckEmptyLists(t *testing.T) {
	for _, c := range codes() {
		for n, want := range map[int]api.Errno{0: api.ErrCount, 1: api.OK} {
			a := request(c, 0, n)
			if a.On == nil {
				a.On = []bool{}
			}
			if a.Set == nil {
				a.Set = []uint16{}
			}
			if a.Parts == nil {
				a.Parts = []api.Part{}
			}
			checks(t, a, want)
		}
	}
}

// An address that is none is ahead of ErrCount.
func TestCheckAddr(t *testing.T) {
	for _, c := range codes() {
		if c == 20 {
			continue
		}
		for _, addr := range []int{math.MinInt, -65536, -1, 65536, 65537, 1 << 32, math.MaxInt - 1, math.MaxInt} {
			for _, n := range []int{0, 1, most(c), most(c) + 1} {
				checks(t, request(c, addr, n), api.ErrAddr)
			}
		}
		for _, addr := range []int{0, 1, 65534, 65535} {
			checks(t, request(c, addr, 1), api.OK)
		}
	}
}

// ErrCount is ahead of an end that is too far.
func TestCheckCount(t *testing.T) {
	for _, c := range codes() {
		for _, addr := range []int{0, 1, 65535} {
			for _, n := range []int{0, most(c) + 1, most(c) + 2, 3000, 65536} {
				checks(t, request(c, addr, n), api.ErrCount)
			}
			if c <= 4 {
				for _, n := range []int{math.MinInt, -1, 1 << 32, 1<<32 + 1, math.MaxInt - 1, math.MaxInt} {
					checks(t, api.Ask{Code: c, Addr: addr, Count: n}, api.ErrCount)
				}
			}
		}
		checks(t, request(c, 0, 1), api.OK)
		checks(t, request(c, 0, most(c)), api.OK)
	}
}

func TestCheckEnd(t *testing.T) {
	for _, c := range codes() {
		if c == 20 {
			continue
		}
		for _, n := range counts(most(c)) {
			checks(t, request(c, 65536-n, n), api.OK)
			if n > 1 {
				checks(t, request(c, 65537-n, n), api.ErrAddr)
				checks(t, request(c, 65535, n), api.ErrAddr)
			}
		}
	}
}

func TestCheckPart(t *testing.T) {
	good := api.Part{File: 7, Record: 7, Length: 1}
	for _, c := range []struct {
		p    api.Part
		want api.Errno
	}{
		{api.Part{File: 1, Record: 0, Length: 1}, api.OK},
		{api.Part{File: 0, Record: 0, Length: 1}, api.ErrRange},
		{api.Part{File: -1, Record: 0, Length: 1}, api.ErrRange},
		{api.Part{File: math.MinInt, Record: 0, Length: 1}, api.ErrRange},
		{api.Part{File: 65535, Record: 0, Length: 1}, api.OK},
		{api.Part{File: 65536, Record: 0, Length: 1}, api.ErrRange},
		{api.Part{File: 65537, Record: 0, Length: 1}, api.ErrRange},
		{api.Part{File: math.MaxInt, Record: 0, Length: 1}, api.ErrRange},
		{api.Part{File: 1, Record: -1, Length: 1}, api.ErrRange},
		{api.Part{File: 1, Record: math.MinInt, Length: 1}, api.ErrRange},
		{api.Part{File: 1, Record: math.MinInt, Length: math.MaxInt}, api.ErrRange},
		{api.Part{File: 1, Record: 9999, Length: 1}, api.OK},
		{api.Part{File: 1, Record: 9999, Length: 0}, api.ErrRange},
		{api.Part{File: 1, Record: 9999, Length: 2}, api.ErrRange},
		{api.Part{File: 1, Record: 10000, Length: 0}, api.ErrRange},
		{api.Part{File: 1, Record: 10000, Length: 1}, api.ErrRange},
		{api.Part{File: 1, Record: 10001, Length: -1}, api.ErrRange},
		{api.Part{File: 1, Record: math.MaxInt, Length: 1}, api.ErrRange},
		{api.Part{File: 1, Record: 0, Length: 0}, api.ErrRange},
		{api.Part{File: 1, Record: 0, Length: -1}, api.ErrRange},
		{api.Part{File: 1, Record: 0, Length: math.MinInt}, api.ErrRange},
		{api.Part{File: 1, Record: 0, Length: 10001}, api.ErrRange},
		{api.Part{File: 1, Record: 0, Length: math.MaxInt}, api.ErrRange},
		{api.Part{File: 1, Record: 0, Length: math.MaxInt/2 + 1}, api.ErrRange},
		{api.Part{File: 1, Record: 1, Length: math.MaxInt}, api.ErrRange},
		{api.Part{File: 1, Record: 9999, Length: math.MaxInt}, api.ErrRange},
		{api.Part{File: 1, Record: 9999, Length: math.MaxInt - 9998}, api.ErrRange},
		{api.Part{File: 1, Record: 9900, Length: 100}, api.OK},
		{api.Part{File: 1, Record: 9900, Length: 101}, api.ErrRange},
		{api.Part{}, api.ErrRange},
	} {
		checks(t, files(c.p), c.want)
		checks(t, files(good, c.p), c.want)
		checks(t, files(c.p, good), c.want)
		checks(t, files(good, good, c.p, good), c.want)
	}
}

func TestCheckLong(t *testing.T) {
	for n, want := range map[int]api.Errno{120: api.OK, 121: api.OK, 122: api.ErrLong, 123: api.ErrLong, 9999: api.ErrLong, 10000: api.ErrLong} {
		checks(t, files(api.Part{File: 1, Record: 0, Length: n}), want)
	}
	// 2 a part and 2 a word: n parts and m words have 2n + 2m bytes, and 245 is odd.
	for n := 1; n <= 35; n++ {
		for m, want := range map[int]api.Errno{122 - n: api.OK, 123 - n: api.ErrLong} {
			parts := slices.Repeat([]api.Part{{File: 2, Record: 5, Length: 1}}, n)
			for i := range m - n {
				parts[i%n].Length++
			}
			checks(t, files(parts...), want)
		}
	}
	checks(t, files(slices.Repeat([]api.Part{{File: 1, Record: 0, Length: 10000}}, 35)...), api.ErrLong)
}

// ErrCount is ahead of ErrRange, and that ahead of ErrLong, whichever part is wrong.
func TestCheckPartsFirstError(t *testing.T) {
	long, wrong := api.Part{File: 1, Record: 0, Length: 10000}, api.Part{File: 0, Record: 0, Length: 1}
	checks(t, files(long, wrong), api.ErrRange)
	checks(t, files(wrong, long), api.ErrRange)
	checks(t, files(long, long, long, wrong), api.ErrRange)
	for _, p := range []api.Part{long, wrong} {
		checks(t, files(slices.Repeat([]api.Part{p}, 36)...), api.ErrCount)
	}
	checks(t, files(append(slices.Repeat([]api.Part{long}, 34), wrong)...), api.ErrRange)
}

// firstError is what Check must tell, rule by rule; of many fewer numbers than there are ints, so that no sum is too great.
func firstError(a api.Ask) api.Errno {
	if !slices.Contains(codes(), a.Code) {
		return api.ErrCode
	}
	isFile, bit, word := a.Code == 20, a.Code == 5 || a.Code == 15, a.Code == 6 || a.Code == 16
	n := map[bool]int{isFile: len(a.Parts), bit: len(a.On), word: len(a.Set), a.Code < 5: a.Count}[true]
	wrongPart, sum := false, 0
	for _, p := range a.Parts {
		sum += 2 + 2*p.Length
		wrongPart = wrongPart || p.File < 1 || p.File > 65535 || p.Record < 0 || p.Record > 9999 || p.Length < 1 || p.Record+p.Length > 10000
	}
	for _, rule := range []struct {
		broken bool
		errno  api.Errno
	}{
		{isFile && a.Addr != 0, api.ErrField},
		{a.Code > 4 && a.Count != 0, api.ErrField},
		{!bit && len(a.On) > 0, api.ErrField},
		{!word && len(a.Set) > 0, api.ErrField},
		{!isFile && len(a.Parts) > 0, api.ErrField},
		{a.Addr < 0 || a.Addr > 65535, api.ErrAddr},
		{n < 1 || n > most(a.Code), api.ErrCount},
		{!isFile && a.Addr+n > 65536, api.ErrAddr},
		{wrongPart, api.ErrRange},
		{sum > 245, api.ErrLong},
	} {
		if rule.broken {
			return rule.errno
		}
	}
	return api.OK
}

// oneOf is one of some numbers.
func oneOf(r *rand.Rand, l ...int) int { return l[r.Intn(len(l))] }

// someAsk is a request that is right or wrong in some places.
func someAsk(r *rand.Rand) api.Ask {
	code := oneOf(r, append(codes(), 0, 7, 14, 17, 21)...)
	a := request(code, oneOf(r, 0, 1, 65535, 65534, 65536-123, 65536-1968, 65536, -1, r.Intn(65536)), oneOf(r, 0, 1, 2, most(code), most(code)+1, r.Intn(130)))
	for i := range a.Parts {
		if r.Intn(20) == 0 {
			a.Parts[i].File = oneOf(r, 0, 1, 65535, 65536)
			a.Parts[i].Record = oneOf(r, -1, 0, 9999, 10000)
		}
		if r.Intn(10) == 0 {
			a.Parts[i].Length = oneOf(r, 0, 1, 2, 3, 121, 122, 10000-a.Parts[i].Record, 10001-a.Parts[i].Record)
		}
	}
	if r.Intn(8) == 0 {
		if l := strays(a); len(l) > 0 {
			a = l[r.Intn(len(l))]
			a.Count %= 10000
			a.Addr %= 100000
		}
	}
	return a
}

func TestCheckSample(t *testing.T) {
	r := rand.New(rand.NewSource(2))
	seen := map[api.Errno]int{}
	for range 20000 {
		a := someAsk(r)
		want := firstError(a)
		seen[want]++
		checks(t, a, want)
	}
	for _, e := range []api.Errno{api.OK, api.ErrCode, api.ErrField, api.ErrAddr, api.ErrCount, api.ErrRange, api.ErrLong} {
		if seen[e] < 50 {
			t.Errorf("the sample has only %d requests for %d", seen[e], e)
		}
	}
}

// P3.2

// pdu is the PDU of a right request, as the chapter's table writes it.
func pdu(a api.Ask) []byte {
	two := binary.BigEndian.AppendUint16
	b := []byte{byte(a.Code)}
	if a.Code != 20 {
		b = two(b, uint16(a.Addr))
	}
	switch a.Code {
	case 1, 2, 3, 4:
		b = two(b, uint16(a.Count))
	case 5:
		b = append(b, 0, 0)
		if a.On[0] {
			b[3] = 0xFF
		}
	case 6:
		b = two(b, a.Set[0])
	case 15:
		n := (len(a.On) + 7) / 8
		b = append(two(b, uint16(len(a.On))), byte(n))
		b = append(b, make([]byte, n)...)
		for i, on := range a.On {
			if on {
				b[6+i/8] += 1 << (i % 8)
			}
		}
	case 16:
		b = append(two(b, uint16(len(a.Set))), byte(2*len(a.Set)))
		for _, w := range a.Set {
			b = two(b, w)
		}
	case 20:
		b = append(b, byte(7*len(a.Parts)))
		for _, p := range a.Parts {
			b = two(two(two(append(b, 6), uint16(p.File)), uint16(p.Record)), uint16(p.Length))
		}
	}
	return b
}

// examples are requests and their PDUs.
func examples() map[string]api.Ask {
	return map[string]api.Ask{
		"\x01\x00\x13\x00\x13":                     {Code: 1, Addr: 19, Count: 19},
		"\x02\xff\xff\x00\x01":                     {Code: 2, Addr: 65535, Count: 1},
		"\x02\x00\x00\x07\xd0":                     {Code: 2, Addr: 0, Count: 2000},
		"\x03\x00\x6b\x00\x03":                     {Code: 3, Addr: 107, Count: 3},
		"\x04\x01\x00\x00\x7d":                     {Code: 4, Addr: 256, Count: 125},
		"\x05\x00\xac\xff\x00":                     {Code: 5, Addr: 172, On: []bool{true}},
		"\x05\x00\xac\x00\x00":                     {Code: 5, Addr: 172, On: []bool{false}},
		"\x06\x00\x01\x12\x34":                     {Code: 6, Addr: 1, Set: []uint16{0x1234}},
		"\x0f\x00\x13\x00\x0a\x02\xcd\x01":         {Code: 15, Addr: 19, On: []bool{true, false, true, true, false, false, true, true, true, false}},
		"\x0f\x00\x00\x00\x08\x01\x80":             {Code: 15, On: []bool{false, false, false, false, false, false, false, true}},
		"\x0f\x00\x00\x00\x01\x01\x00":             {Code: 15, On: []bool{false}},
		"\x10\x00\x01\x00\x02\x04\x00\x0a\x01\x02": {Code: 16, Addr: 1, Set: []uint16{10, 258}},
		"\x14\x0e\x06\x00\x04\x00\x01\x00\x02\x06\x00\x03\x00\x09\x00\x02": files(api.Part{File: 4, Record: 1, Length: 2}, api.Part{File: 3, Record: 9, Length: 2}),
		"\x14\x07\x06\xff\xff\x27\x0f\x00\x01":                             files(api.Part{File: 65535, Record: 9999, Length: 1}),
	}
}

func TestPutExamples(t *testing.T) {
	for want, a := range examples() {
		if b, errno := ask.Put(a); string(b) != want || errno != api.OK {
			t.Errorf("Put of %+v: % x, %d", a, b, errno)
		}
	}
}

func TestPut(t *testing.T) {
	for _, a := range rightAsks() {
		if b, errno := ask.Put(a); !bytes.Equal(b, pdu(a)) || errno != api.OK {
			t.Fatalf("Put of %+v: % x, %d", a, b, errno)
		}
	}
}

func TestPutEveryCount(t *testing.T) {
	for _, c := range codes() {
		for n := 1; n <= most(c); n++ {
			a := request(c, 77, n)
			if b, errno := ask.Put(a); !bytes.Equal(b, pdu(a)) || errno != api.OK {
				t.Fatalf("Put of %d of code %d: % x, %d", n, c, b, errno)
			}
		}
	}
}

// P3.3

// gets sees that Get tells an error, and nothing beside it.
func gets(t *testing.T, b string, want api.Errno) {
	t.Helper()
	if a, errno := ask.Get([]byte(b)); errno != want || want != api.OK && !isZero(a) {
		t.Errorf("Get of % x: %+v, %d, not %d", b, a, errno, want)
	}
}

func TestGetExamples(t *testing.T) {
	for b, want := range examples() {
		if a, errno := ask.Get([]byte(b)); !same(a, want) || errno != api.OK {
			t.Errorf("Get of % x: %+v, %d", b, a, errno)
		}
	}
	gets(t, "\x05\x00\xac\x12\x34", api.ErrForm)
	gets(t, "\x03\x00\x6b\x00", api.ErrShort)
	gets(t, "\x03\x00\x6b\x00\x03\x00", api.ErrLong)
	gets(t, "\x07", api.ErrCode)
	gets(t, "\x03\x00\x00\x00\x00", api.ErrCount)
	gets(t, "\x03\xff\xff\x00\x02", api.ErrAddr)
	gets(t, "\x0f\x00\x13\x00\x0a\x02\xcd\x05", api.ErrForm)
}

func TestGet(t *testing.T) {
	for _, want := range rightAsks() {
		if a, errno := ask.Get(pdu(want)); !same(a, want) || errno != api.OK {
			t.Fatalf("Get of % x: %+v, %d, not %+v", pdu(want), a, errno, want)
		}
	}
}

// No code is asked for ahead of the first byte; that it is none is ahead of any length.
func TestGetCode(t *testing.T) {
	gets(t, "", api.ErrShort)
	if a, errno := ask.Get(nil); !isZero(a) || errno != api.ErrShort {
		t.Errorf("%+v, %d", a, errno)
	}
	for c := range 256 {
		if slices.Contains(codes(), c) {
			gets(t, string([]byte{byte(c)}), api.ErrShort)
			continue
		}
		for n := range 9 {
			gets(t, string([]byte{byte(c)})+string(make([]byte, n)), api.ErrCode)
		}
		gets(t, string([]byte{byte(c)})+string(make([]byte, 300)), api.ErrCode)
	}
}

// A PDU that lacks one byte or more, or has one more, whatever the bytes behind are.
func TestGetLength(t *testing.T) {
	for _, a := range rightAsks() {
		b := string(pdu(a))
		for _, n := range []int{1, 2, 3, 4, 5, 6, 7, 8, 9, len(b) - 7, len(b) - 2, len(b) - 1} {
			if n >= 1 && n < len(b) {
				gets(t, b[:n], api.ErrShort)
			}
		}
		for _, more := range []string{"\x00", "\x06", "\xff", "\x00\x00", b, string(make([]byte, 300))} {
			gets(t, b+more, api.ErrLong)
		}
	}
}

// The byte that says how many follow is believed, ahead of all that it is held against.
func TestGetCountedLength(t *testing.T) {
	for _, head := range []string{"\x0f\x00\x00\x00\x09", "\x10\x00\x00\x00\x01", "\x14"} {
		gets(t, head, api.ErrShort)
		for n := range 256 {
			b := head + string([]byte{byte(n)})
			if n > 0 {
				gets(t, b, api.ErrShort)
				gets(t, b+string(make([]byte, n-1)), api.ErrShort)
			}
			gets(t, b+string(make([]byte, n+1)), api.ErrLong)
			gets(t, b+string(make([]byte, n+256)), api.ErrLong)
		}
	}
}

// A wrong length is ahead of a wrong form, and of what Check has against the request.
func TestGetLengthAheadOfForm(t *testing.T) {
	gets(t, "\x05\x00\xac\x12", api.ErrShort)
	gets(t, "\x05\x00\xac\x12\x34\x00", api.ErrLong)
	gets(t, "\x0f\x00\x13\x00\x0a\x03\xcd\x05", api.ErrShort)
	gets(t, "\x0f\x00\x13\x00\x0a\x01\xcd\x05", api.ErrLong)
	gets(t, "\x10\x00\x01\x00\x02\x05\x00\x0a\x01\x02", api.ErrShort)
	gets(t, "\x10\x00\x01\x00\x02\x03\x00\x0a\x01\x02", api.ErrLong)
	gets(t, "\x14\x08\x06\x00\x01\x00\x00\x00\x01", api.ErrShort)
	gets(t, "\x14\x06\x07\x00\x01\x00\x00\x00\x01", api.ErrLong)
	gets(t, "\x03\x00\x00\x00", api.ErrShort)
	gets(t, "\x03\xff\xff\x00\x02\x00", api.ErrLong)
	gets(t, "\x10\x00\x00\x00\x00", api.ErrShort)
	gets(t, "\x14\x00\x00", api.ErrLong)
}

func TestGetCoilForm(t *testing.T) {
	for w := range 1 << 16 {
		b := []byte{5, 1, 2, byte(w >> 8), byte(w)}
		a, errno := ask.Get(b)
		if w != 0xFF00 && w != 0 {
			if !isZero(a) || errno != api.ErrForm {
				t.Fatalf("Get of % x: %+v, %d", b, a, errno)
			}
			continue
		}
		if want := (api.Ask{Code: 5, Addr: 258, On: []bool{w != 0}}); !same(a, want) || errno != api.OK {
			t.Fatalf("Get of % x: %+v, %d", b, a, errno)
		}
	}
}

func TestGetSetForm(t *testing.T) {
	for many := range 2100 {
		for follow := range 256 {
			b := []byte{15, 0, 0, byte(many >> 8), byte(many), byte(follow)}
			b = append(b, make([]byte, follow)...)
			want := api.ErrForm
			if follow == (many+7)/8 {
				want = map[bool]api.Errno{true: api.OK, false: api.ErrCount}[many >= 1 && many <= 1968]
			}
			if a, errno := ask.Get(b); errno != want || want != api.OK && !isZero(a) {
				t.Fatalf("%d bits in %d bytes: %d, not %d", many, follow, errno, want)
			}
			b[0], want = 16, api.ErrForm
			if follow == 2*many {
				want = map[bool]api.Errno{true: api.OK, false: api.ErrCount}[many >= 1 && many <= 123]
			}
			if a, errno := ask.Get(b); errno != want || want != api.OK && !isZero(a) {
				t.Fatalf("%d words in %d bytes: %d, not %d", many, follow, errno, want)
			}
		}
	}
	// These need as many bytes as a byte says, but for its wrap-round.
	for _, b := range []string{"\x0f\x00\x00\x08\x00\x00", "\x0f\x00\x00\xff\xff\x00", "\x10\x00\x00\x00\x80\x00", "\x10\x00\x00\x80\x00\x00", "\x10\x00\x00\x80\x01\x02\x00\x00"} {
		gets(t, b, api.ErrForm)
	}
}

// Each spare bit alone is seen; each bit that is none is not held against it.
func TestGetSpareBits(t *testing.T) {
	for n := 1; n <= 40; n++ {
		b := pdu(request(15, 5, n))
		for i := range 8 * (len(b) - 6) {
			turned := bytes.Clone(b)
			turned[6+i/8] ^= 1 << (i % 8)
			if i >= n {
				gets(t, string(turned), api.ErrForm)
				continue
			}
			want := request(15, 5, n)
			want.On[i] = !want.On[i]
			if a, errno := ask.Get(turned); !same(a, want) || errno != api.OK {
				t.Errorf("Get of % x: %+v, %d", turned, a, errno)
			}
		}
	}
}

func TestGetPartsForm(t *testing.T) {
	for n := range 256 {
		b := append([]byte{20, byte(n)}, bytes.Repeat([]byte{6, 0, 1, 0, 0, 0, 1}, 40)[:n]...)
		want := api.OK
		if n%7 != 0 {
			want = api.ErrForm
		} else if n == 0 || n > 245 {
			want = api.ErrCount
		}
		gets(t, string(b), want)
		for at := 2; at+7 <= len(b); at += 7 {
			for _, mark := range []byte{0, 5, 7, 0x86, 0xFF} {
				wrong := bytes.Clone(b)
				wrong[at] = mark
				gets(t, string(wrong), api.ErrForm)
			}
		}
	}
}

// A wrong form is ahead of what Check has against the request.
func TestGetFormAheadOfCheck(t *testing.T) {
	gets(t, "\x0f\xff\xff\x00\x0a\x01\x01", api.ErrForm)
	gets(t, "\x0f\xff\xff\x00\x02\x01\x04", api.ErrForm)
	gets(t, "\x0f\x00\x00\x00\x00\x01\x00", api.ErrForm)
	gets(t, "\x10\x00\x00\x00\x00\x02\x00\x01", api.ErrForm)
	gets(t, "\x10\xff\xff\x00\x02\x02\x00\x01", api.ErrForm)
	gets(t, "\x10\xff\xff\x00\x02\x03\x00\x01\x00", api.ErrForm)
	zero := "\x06\x00\x00\x00\x00\x00\x00" // out of its place, and of the right form
	gets(t, "\x14\x0e"+zero+"\x07\x00\x01\x00\x00\x00\x01", api.ErrForm)
	gets(t, "\x14\x08"+zero+"\x06", api.ErrForm)
	many := "\x14\xfc"
	for range 35 {
		many += zero
	}
	gets(t, many+"\x05\x00\x01\x00\x00\x00\x01", api.ErrForm)
	gets(t, many+zero, api.ErrCount)
}

// What Check has against the request, the first first.
func TestGetCheck(t *testing.T) {
	for _, c := range []struct {
		b    string
		want api.Errno
	}{
		{"\x01\x00\x00\x07\xd1", api.ErrCount},
		{"\x02\x00\x00\xff\xff", api.ErrCount},
		{"\x01\xff\xff\x07\xd1", api.ErrCount},
		{"\x01\xff\xff\x00\x00", api.ErrCount},
		{"\x01\xf8\x30\x07\xd0", api.OK},
		{"\x01\xf8\x31\x07\xd0", api.ErrAddr},
		{"\x03\x00\x00\x00\x7e", api.ErrCount},
		{"\x04\xff\x83\x00\x7d", api.OK},
		{"\x04\xff\x84\x00\x7d", api.ErrAddr},
		{"\x0f\x00\x00\x00\x00\x00", api.ErrCount},
		{"\x0f\xff\xff\x00\x02\x01\x00", api.ErrAddr},
		{"\x0f\xff\xfe\x00\x02\x01\x03", api.OK},
		{"\x10\x00\x00\x00\x00\x00", api.ErrCount},
		{"\x10\xff\xff\x00\x02\x04\x00\x00\x00\x00", api.ErrAddr},
		{"\x10\xff\xfe\x00\x02\x04\x00\x00\x00\x00", api.OK},
		{"\x10\xff\xff\x00\x7c\xf8" + string(make([]byte, 248)), api.ErrCount},
		{"\x14\x00", api.ErrCount},
		{"\x14\x07\x06\x00\x00\x00\x00\x00\x01", api.ErrRange},
		{"\x14\x07\x06\x00\x01\x27\x10\x00\x01", api.ErrRange},
		{"\x14\x07\x06\x00\x01\x27\x0f\x00\x02", api.ErrRange},
		{"\x14\x07\x06\x00\x01\x27\x0f\x00\x01", api.OK},
		{"\x14\x07\x06\x00\x01\x00\x00\x00\x00", api.ErrRange},
		{"\x14\x07\x06\x00\x01\x00\x00\x27\x11", api.ErrRange},
		{"\x14\x07\x06\x00\x01\x00\x00\x27\x10", api.ErrLong},
		{"\x14\x07\x06\x00\x01\x00\x00\x00\x7a", api.ErrLong},
		{"\x14\x07\x06\x00\x01\x00\x00\x00\x79", api.OK},
		{"\x14\x0e\x06\x00\x01\x00\x00\x00\x7a\x06\x00\x00\x00\x00\x00\x01", api.ErrRange},
	} {
		gets(t, c.b, c.want)
	}
}

// said is what Get must tell, step by step, with a reader of its own.
func said(b []byte) (api.Ask, api.Errno) {
	if len(b) == 0 {
		return api.Ask{}, api.ErrShort
	}
	code := int(b[0])
	if !slices.Contains(codes(), code) {
		return api.Ask{}, api.ErrCode
	}
	need := map[bool]int{code <= 6: 5, code == 15 || code == 16: 6, code == 20: 2}[true]
	if code > 6 && len(b) >= need {
		need += int(b[need-1])
	}
	if len(b) < need {
		return api.Ask{}, api.ErrShort
	}
	if len(b) > need {
		return api.Ask{}, api.ErrLong
	}
	a, wrong := api.Ask{Code: code}, false
	two := func(at int) int { return int(binary.BigEndian.Uint16(b[at:])) }
	switch {
	case code < 5:
		a.Addr, a.Count = two(1), two(3)
	case code == 5:
		a.Addr, a.On, wrong = two(1), []bool{b[3] == 0xFF}, two(3) != 0 && two(3) != 0xFF00
	case code == 6:
		a.Addr, a.Set = two(1), []uint16{uint16(two(3))}
	case code == 15:
		a.Addr = two(1)
		wrong = len(b)-6 != (two(3)+7)/8
		for i := 0; i < 8*(len(b)-6) && !wrong; i++ {
			on := b[6+i/8]>>(i%8)&1 == 1
			if i < two(3) {
				a.On = append(a.On, on)
			} else if on {
				return api.Ask{}, api.ErrForm
			}
		}
	case code == 16:
		a.Addr = two(1)
		wrong = len(b)-6 != 2*two(3)
		for i := 6; i+1 < len(b); i += 2 {
			a.Set = append(a.Set, uint16(two(i)))
		}
	case code == 20:
		wrong = b[1]%7 != 0
		for i := 2; i+6 < len(b); i += 7 {
			wrong = wrong || b[i] != 6
			a.Parts = append(a.Parts, api.Part{File: two(i + 1), Record: two(i + 3), Length: two(i + 5)})
		}
	}
	if wrong {
		return api.Ask{}, api.ErrForm
	}
	if errno := firstError(a); errno != api.OK {
		return api.Ask{}, errno
	}
	return a, api.OK
}

// spoilt are PDUs of right requests, some of them changed in some places, and bytes that never were one.
func spoilt(n int) [][]byte {
	r := rand.New(rand.NewSource(3))
	right := rightAsks()
	var out [][]byte
	for k := range n {
		b := pdu(right[r.Intn(len(right))])
		if k%10 == 0 {
			b = make([]byte, r.Intn(12))
			r.Read(b)
			if len(b) > 0 {
				b[0] = byte(oneOf(r, codes()...))
			}
		}
		for range r.Intn(4) {
			if len(b) > 0 {
				at := r.Intn(min(len(b), 1+r.Intn(300)))
				b[at] = byte(oneOf(r, 0, 1, 6, 7, 0xFF, int(b[at])+1, int(b[at])-1, r.Intn(256)))
			}
		}
		if r.Intn(8) == 0 {
			b = b[:r.Intn(len(b)+1)]
		}
		if r.Intn(12) == 0 {
			b = append(b, byte(r.Intn(256)))
		}
		out = append(out, b)
	}
	return out
}

func TestGetSample(t *testing.T) {
	seen := map[api.Errno]int{}
	for _, b := range spoilt(40000) {
		want, errno := said(b)
		seen[errno]++
		if a, e := ask.Get(b); e != errno || !same(a, want) {
			t.Fatalf("Get of % x: %+v, %d, not %+v, %d", b, a, e, want, errno)
		}
	}
	for _, e := range []api.Errno{api.OK, api.ErrShort, api.ErrLong, api.ErrCode, api.ErrForm, api.ErrCount, api.ErrAddr, api.ErrRange} {
		if seen[e] < 50 {
			t.Errorf("the sample has only %d rows for %d", seen[e], e)
		}
	}
}

// What lies behind a list's end is not part of it.
func TestGetDoesNotReadTheSpareRoom(t *testing.T) {
	for b := range examples() {
		whole := []byte(b)
		for n := range b {
			if a, errno := ask.Get(whole[:n]); !isZero(a) || errno != api.ErrShort {
				t.Errorf("Get of % x: %+v, %d", whole[:n], a, errno)
			}
		}
	}
}

// P3.4

func TestWrites(t *testing.T) {
	writes := []int{5, 6, 15, 16}
	for _, c := range append(codes(), otherCodes()...) {
		want := slices.Contains(writes, c)
		for _, a := range []api.Ask{
			{},
			{Addr: -1, Count: -1},
			{On: []bool{true}},
			{Set: []uint16{1}},
			{Parts: []api.Part{{File: 1, Length: 1}}},
			{Addr: 1, Count: 1, On: []bool{true}, Set: []uint16{1}, Parts: []api.Part{{}}},
		} {
			a.Code = c
			if ask.Writes(a) != want {
				t.Errorf("Writes of %+v: %t", a, !want)
			}
		}
	}
	for _, a := range rightAsks() {
		if ask.Writes(a) != slices.Contains(writes, a.Code) {
			t.Errorf("Writes of %+v", a)
		}
	}
}

// P3.5

func TestGetOfPut(t *testing.T) {
	longest := 0
	for _, a := range rightAsks() {
		b, errno := ask.Put(a)
		if errno != api.OK || len(b) > api.MaxPdu {
			t.Fatalf("Put of %+v: %d bytes, %d", a, len(b), errno)
		}
		longest = max(longest, len(b))
		if g, errno := ask.Get(b); !same(g, a) || errno != api.OK {
			t.Fatalf("%+v comes back as %+v, %d", a, g, errno)
		}
	}
	if longest != 252 { // six bytes ahead of 1968 bits or of 123 words
		t.Errorf("the longest PDU has %d bytes", longest)
	}
}

func TestGetOfPutEveryCount(t *testing.T) {
	for _, c := range codes() {
		for n := 1; n <= most(c); n++ {
			a := request(c, 65536-n, n)
			b, _ := ask.Put(a)
			if g, errno := ask.Get(b); !same(g, a) || errno != api.OK || len(b) > api.MaxPdu {
				t.Fatalf("%+v comes back as %+v, %d, of %d bytes", a, g, errno, len(b))
			}
		}
	}
}

func TestPutOfGet(t *testing.T) {
	told := 0
	for _, b := range spoilt(40000) {
		a, errno := ask.Get(b)
		if errno != api.OK {
			continue
		}
		told++
		if len(b) > api.MaxPdu {
			t.Fatalf("% x is told, of %d bytes", b, len(b))
		}
		if g, errno := ask.Put(a); !bytes.Equal(g, b) || errno != api.OK {
			t.Fatalf("% x comes back as % x, %d", b, g, errno)
		}
	}
	if told < 5000 {
		t.Errorf("only %d rows are told", told)
	}
}

// Every pair of bytes that may stand behind the codes 1 to 6, at some addresses.
func TestBackOfEveryShortPdu(t *testing.T) {
	for c := 1; c <= 6; c++ {
		for v := range 1 << 16 {
			b := []byte{byte(c), 0, byte(v % 251), byte(v >> 8), byte(v)}
			a, errno := ask.Get(b)
			if want, e := said(b); errno != e || !same(a, want) {
				t.Fatalf("Get of % x: %+v, %d", b, a, errno)
			}
			if errno != api.OK {
				continue
			}
			if g, errno := ask.Put(a); !bytes.Equal(g, b) || errno != api.OK {
				t.Fatalf("% x comes back as % x, %d", b, g, errno)
			}
		}
	}
}

// P3.6

// A PDU's beginnings are none, nor is what begins with it.
func TestNoPduIsTheBeginningOfAnother(t *testing.T) {
	for _, a := range rightAsks() {
		b, _ := ask.Put(a)
		for n := range b {
			if _, errno := ask.Get(b[:n]); errno != api.ErrShort {
				t.Fatalf("% x, the beginning of % x: %d", b[:n], b, errno)
			}
		}
		long := append(bytes.Clone(b), bytes.Repeat(b, 2)...)
		for n := len(b) + 1; n <= len(long); n++ {
			if _, errno := ask.Get(long[:n]); errno != api.ErrLong {
				t.Fatalf("% x, which begins with % x: %d", long[:n], b, errno)
			}
		}
	}
}

func TestPdusStandApart(t *testing.T) {
	var all [][]byte
	for _, a := range rightAsks() {
		b, _ := ask.Put(a)
		all = append(all, b)
	}
	for _, a := range all {
		for _, b := range all {
			if len(a) < len(b) && bytes.HasPrefix(b, a) {
				t.Fatalf("% x is the beginning of % x", a, b)
			}
		}
	}
}

// R3

// roomy is l with spare room behind its end, and the whole of that memory.
func roomy[T any](l []T, spare T) ([]T, []T) {
	whole := append(slices.Clone(l), slices.Repeat([]T{spare}, 16)...)
	return whole[:len(l)], whole
}

// fill writes over a list and all its spare room.
func fill[T any](l []T, v T) {
	l = l[:cap(l)]
	for i := range l {
		l[i] = v
	}
}

// asksOfMemory are requests right and wrong.
func asksOfMemory() []api.Ask {
	out := rightAsks()
	for _, c := range codes() {
		out = append(out, request(c, 65535, 2), request(c, 3, most(c)+1), request(c, 3, 0))
		out = append(out, strays(request(c, 3, 1))...)
	}
	return append(out, files(api.Part{}), files(api.Part{File: 1, Length: 122}), api.Ask{Code: 7, On: []bool{true}, Set: []uint16{1}, Parts: []api.Part{{}}})
}

func TestMemoryOfPut(t *testing.T) {
	for _, want := range asksOfMemory() {
		a := want
		var on []bool
		var set []uint16
		var parts []api.Part
		a.On, on = roomy(want.On, true)
		a.Set, set = roomy(want.Set, 0xA5A5)
		a.Parts, parts = roomy(want.Parts, api.Part{File: 9, Record: 9, Length: 9})
		onWas, setWere, partsWere := slices.Clone(on), slices.Clone(set), slices.Clone(parts)
		unchanged := func() bool {
			return slices.Equal(on, onWas) && slices.Equal(set, setWere) && slices.Equal(parts, partsWere)
		}
		one, errno := ask.Put(a)
		two, _ := ask.Put(a)
		ask.Writes(a)
		if e := ask.Check(a); e != errno || !unchanged() {
			t.Fatalf("what was handed in, %+v, was changed to %+v", want, a)
		}
		was := slices.Clone(two)
		fill(one, 0x3C)
		if !slices.Equal(two, was) || !unchanged() {
			t.Fatalf("Put of %+v hands out shared memory", want)
		}
		three, _ := ask.Put(a)
		fill(on, false)
		fill(set, 0)
		fill(parts, api.Part{})
		if !slices.Equal(two, was) || !slices.Equal(three, was) {
			t.Fatalf("Put of %+v keeps what was handed in, or out", want)
		}
	}
}

func TestMemoryOfGet(t *testing.T) {
	rows := spoilt(2000)
	for _, a := range rightAsks() {
		rows = append(rows, pdu(a))
	}
	for _, b := range rows {
		in, whole := roomy(b, 0xA5)
		before := slices.Clone(whole)
		want, errno := said(b)
		one, e := ask.Get(in)
		two, _ := ask.Get(in)
		if e != errno || !slices.Equal(whole, before) {
			t.Fatalf("what was handed in, % x, was changed to % x", before, whole)
		}
		fill(one.Set, 0x3C3C)
		fill(one.Parts, api.Part{File: 3, Record: 3, Length: 3})
		for _, v := range []bool{false, true} {
			fill(one.On, v)
			if !same(two, want) || !slices.Equal(whole, before) {
				t.Fatalf("Get of % x hands out shared memory", b)
			}
		}
		three, _ := ask.Get(in)
		fill(whole, 0x3C)
		if !same(two, want) || !same(three, want) {
			t.Fatalf("Get of % x keeps what was handed in, or out", b)
		}
	}
}
