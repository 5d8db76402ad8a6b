package reply_test

import (
	"bytes"
	"encoding/binary"
	"math"
	"math/rand"
	"slices"
	"testing"

	"outstation/api"
	"outstation/ask"
	"outstation/reply"
)

// codes are the nine.
func codes() []int { return []int{1, 2, 3, 4, 5, 6, 15, 16, 20} }

// most is how many a request of a code may ask for.
func most(code int) int {
	return map[int]int{1: 2000, 2: 2000, 3: 125, 4: 125, 5: 1, 6: 1, 15: 1968, 16: 123, 20: 35}[code]
}

// bitsOf, wordsOf and partsOf are some bits, words and parts; the parts are of 1 to 3 words each.
func bitsOf(r *rand.Rand, n int) []bool {
	l := make([]bool, n)
	for i := range l {
		l[i] = r.Intn(2) == 1
	}
	return l
}

func wordsOf(r *rand.Rand, n int) []uint16 {
	l := make([]uint16, n)
	for i := range l {
		l[i] = uint16(r.Uint32())
	}
	return l
}

func partsOf(r *rand.Rand, n int) []api.Part {
	l := make([]api.Part, n)
	for i := range l {
		l[i] = api.Part{File: 1 + r.Intn(65535), Record: r.Intn(9998), Length: 1 + r.Intn(3)}
		if n > 30 {
			l[i].Length = 1 + r.Intn(2)
		}
	}
	return l
}

// request asks for n things from addr on; of code 20 for n parts.
func request(code, addr, n int) api.Ask {
	r := rand.New(rand.NewSource(int64(code*7 + addr + n)))
	a := api.Ask{Code: code, Addr: addr}
	switch code {
	case 5, 15:
		a.On = bitsOf(r, n)
	case 6, 16:
		a.Set = wordsOf(r, n)
	case 20:
		a.Addr, a.Parts = 0, partsOf(r, n)
	default:
		a.Count = n
	}
	return a
}

// files is a request for parts of such lengths.
func files(lengths ...int) api.Ask {
	a := api.Ask{Code: 20}
	for i, n := range lengths {
		a.Parts = append(a.Parts, api.Part{File: 1 + i, Record: 5 * i, Length: n})
	}
	return a
}

// counts are some of 1 to n, the ends among them.
func counts(n int) []int {
	var out []int
	for _, k := range []int{1, 2, 3, 7, 8, 9, 10, 15, 16, 17, 34, 35, 122, 123, 124, 125, 255, 256, 257, 1960, 1961, 1967, 1968, 1992, 1993, 1999, 2000} {
		if k <= n {
			out = append(out, k)
		}
	}
	return out
}

// rightAsks are right requests of every code, at the ends of all that they have and between.
func rightAsks() []api.Ask {
	var out []api.Ask
	for _, c := range codes() {
		for _, n := range counts(most(c)) {
			for _, addr := range []int{0, 0x1234, 65536 - n} {
				out = append(out, request(c, addr, n))
			}
		}
	}
	for _, on := range []bool{false, true} {
		out = append(out, api.Ask{Code: 5, Addr: 0xFFFF, On: []bool{on}})
	}
	return append(out,
		files(121), files(1, 119), files(119, 1), files(60, 1, 58), files(6, 6, 6),
		files(slices.Repeat([]int{2}, 35)...), files(slices.Repeat([]int{1}, 35)...), files(slices.Repeat([]int{11}, 10)...))
}

// wrongAsks are requests that ask.Check has something against, each error among them.
func wrongAsks() []api.Ask {
	out := []api.Ask{{}, {Code: 7, Count: 1}, {Code: -3}, {Code: 131, Count: 2}, {Code: 259, Count: 2}, {Code: 20, Parts: []api.Part{{}}}, files(122), {Code: math.MaxInt}, {Code: math.MinInt}}
	for _, c := range codes() {
		stray := request(c, 3, 1)
		if c == 1 {
			stray.Set = []uint16{5}
		} else {
			stray.On, stray.Set = []bool{true}, []uint16{1}
		}
		out = append(out, stray, request(c, 3, 0), request(c, 3, most(c)+1))
		if c != 20 {
			out = append(out, request(c, -1, 1), request(c, 65536, 1))
		}
		if c != 20 && most(c) > 1 {
			out = append(out, request(c, 65535, 2))
		}
	}
	for _, p := range []api.Part{{File: 65536, Length: 1}, {File: 1, Record: 10000, Length: 1}, {File: 1, Record: -1, Length: 1}, {File: 1, Length: 0}, {File: 1, Length: math.MaxInt}} {
		out = append(out, api.Ask{Code: 20, Parts: []api.Part{p}})
	}
	return append(out, api.Ask{Code: 1, Count: math.MaxInt}, api.Ask{Code: 3, Count: math.MinInt}, api.Ask{Code: 4, Addr: math.MaxInt, Count: 1})
}

// answer is some answer to a right request that is no exception.
func answer(r *rand.Rand, a api.Ask) api.Reply {
	switch a.Code {
	case 1, 2:
		return api.Reply{On: bitsOf(r, a.Count)}
	case 3, 4:
		return api.Reply{Set: wordsOf(r, a.Count)}
	case 20:
		var l [][]uint16
		for _, p := range a.Parts {
			l = append(l, wordsOf(r, p.Length))
		}
		return api.Reply{Files: l}
	}
	return api.Reply{}
}

// plain is the answer to a right request in which each bit, or each word, is one.
func plain(a api.Ask, on bool, w uint16) api.Reply {
	r := answer(rand.New(rand.NewSource(0)), a)
	fill(r.On, on)
	fill(r.Set, w)
	for _, l := range r.Files {
		fill(l, w)
	}
	return r
}

// rightReplies are answers to a right request, exceptions among them.
func rightReplies(a api.Ask) []api.Reply {
	r := rand.New(rand.NewSource(int64(len(a.Parts)*9 + a.Count + a.Addr)))
	out := []api.Reply{plain(a, false, 0), plain(a, true, 0xFFFF), plain(a, true, 0x0102), answer(r, a), answer(r, a)}
	for _, n := range []int{1, 2, 3, 4, 6, 126, 127} {
		out = append(out, api.Reply{Exc: n})
	}
	return out
}

// sameFiles says whether two lists of lists of words are one: a list that is nil is one that is empty.
func sameFiles(a, b [][]uint16) bool { return slices.EqualFunc(a, b, slices.Equal) }

// same says whether two answers are one: a list that is nil is one that is empty.
func same(a, b api.Reply) bool {
	return a.Exc == b.Exc && slices.Equal(a.On, b.On) && slices.Equal(a.Set, b.Set) && sameFiles(a.Files, b.Files)
}

// isZero says whether an answer is the zero value of its type.
func isZero(r api.Reply) bool { return same(r, api.Reply{}) }

// P4.1

// checks sees that Check and Put tell an error, and Put nothing beside it.
func checks(t *testing.T, a api.Ask, r api.Reply, want api.Errno) {
	t.Helper()
	if errno := reply.Check(a, r); errno != want {
		t.Errorf("Check of %+v to %+v: %d, not %d", r, a, errno, want)
	}
	b, errno := reply.Put(a, r)
	if errno != want || want != api.OK && b != nil || want == api.OK && len(b) < 2 {
		t.Errorf("Put of %+v to %+v: % x, %d, not %d", r, a, b, errno, want)
	}
}

func TestCheckRight(t *testing.T) {
	for _, a := range rightAsks() {
		for _, r := range rightReplies(a) {
			checks(t, a, r, api.OK)
		}
	}
}

func TestCheckExamples(t *testing.T) {
	two := api.Ask{Code: 3, Count: 2}
	checks(t, two, api.Reply{Set: []uint16{1, 512}}, api.OK)
	checks(t, two, api.Reply{Set: []uint16{1}}, api.ErrCount)
	checks(t, two, api.Reply{Set: []uint16{1}, On: []bool{true}}, api.ErrField)
	checks(t, two, api.Reply{Set: []uint16{1, 512}, On: []bool{true}}, api.ErrField)
	checks(t, two, api.Reply{Exc: 2, Set: []uint16{1, 512}}, api.ErrField)
}

// strayLists are answers that each have but one list, of n things.
func strayLists(n int) []api.Reply {
	return []api.Reply{
		{On: make([]bool, n)},
		{Set: make([]uint16, n)},
		{Files: make([][]uint16, n)},
		{Files: slices.Repeat([][]uint16{{7}}, n)},
	}
}

// What ask.Check has against the request is ahead of all that is wrong with the answer.
func TestCheckOfAskIsFirst(t *testing.T) {
	seen := map[api.Errno]bool{}
	for _, a := range wrongAsks() {
		want := ask.Check(a)
		seen[want] = true
		for _, exc := range []int{0, 1, 127, 128, -1, math.MaxInt} {
			checks(t, a, api.Reply{Exc: exc}, want)
			for _, r := range append(strayLists(1), strayLists(2)...) {
				r.Exc = exc
				checks(t, a, r, want)
			}
		}
	}
	for _, e := range []api.Errno{api.ErrCode, api.ErrField, api.ErrAddr, api.ErrCount, api.ErrRange, api.ErrLong} {
		if !seen[e] || seen[api.OK] {
			t.Errorf("no request is wrong by %d, or one is right", e)
		}
	}
}

// excs are numbers of exceptions, and noExcs are others that are not 0.
func excs() []int { return []int{1, 2, 3, 4, 5, 6, 64, 126, 127} }

func noExcs() []int {
	return []int{math.MinInt, math.MinInt + 1, -256, -255, -128, -127, -1, 128, 129, 130, 254, 255, 256, 257, 258, 383, 65536, 65537, 1 << 32, 1<<32 + 1, math.MaxInt - 1, math.MaxInt}
}

func TestCheckException(t *testing.T) {
	for _, c := range codes() {
		a := request(c, 5, 1)
		for _, n := range excs() {
			checks(t, a, api.Reply{Exc: n}, api.OK)
			checks(t, a, api.Reply{Exc: n, On: []bool{}, Set: []uint16{}, Files: [][]uint16{}}, api.OK)
		}
		for _, n := range noExcs() {
			checks(t, a, api.Reply{Exc: n}, api.ErrRange)
		}
	}
}

// ErrRange is ahead of ErrField; that is told of each list, and of the one too that an answer would have.
func TestCheckExceptionWithLists(t *testing.T) {
	for _, c := range codes() {
		a := request(c, 5, 1)
		lists := append(strayLists(1), strayLists(2)...)
		if r := plain(a, true, 5); !isZero(r) {
			lists = append(lists, r)
		}
		for _, r := range lists {
			for _, r.Exc = range excs() {
				checks(t, a, r, api.ErrField)
			}
			for _, r.Exc = range noExcs() {
				checks(t, a, r, api.ErrRange)
			}
		}
	}
}

// withStrays are answers like r, each with a list of n things more that an answer to the code does not have, the last one with all of them.
func withStrays(code int, r api.Reply, n int) []api.Reply {
	var out []api.Reply
	all := r
	if code != 1 && code != 2 {
		one := r
		one.On = make([]bool, n)
		all.On = one.On
		out = append(out, one)
	}
	if code != 3 && code != 4 {
		one := r
		one.Set = make([]uint16, n)
		all.Set = one.Set
		out = append(out, one)
	}
	if code != 20 {
		one := r
		one.Files = make([][]uint16, n)
		all.Files = one.Files
		out = append(out, one)
	}
	return append(out, all)
}

// ErrField is ahead of ErrCount: each list that an answer does not have is refused, whether the one that it has is right or not.
func TestCheckField(t *testing.T) {
	for _, a := range rightAsks() {
		for n := 1; n <= 3; n++ {
			for _, r := range append(withStrays(a.Code, api.Reply{}, n), withStrays(a.Code, plain(a, true, 1), n)...) {
				checks(t, a, r, api.ErrField)
			}
		}
	}
}

// An answer that has as many things as were asked for, but in a list of another kind.
func TestCheckOtherList(t *testing.T) {
	for _, n := range []int{1, 2, 35} {
		checks(t, request(1, 0, n), api.Reply{Set: make([]uint16, n)}, api.ErrField)
		checks(t, request(2, 0, n), api.Reply{Set: make([]uint16, n)}, api.ErrField)
		checks(t, request(3, 0, n), api.Reply{On: make([]bool, n)}, api.ErrField)
		checks(t, request(4, 0, n), api.Reply{Files: slices.Repeat([][]uint16{{1}}, n)}, api.ErrField)
		checks(t, files(n), api.Reply{Set: make([]uint16, n)}, api.ErrField)
	}
	for _, c := range []int{5, 6, 15, 16} {
		a := request(c, 0, 1)
		checks(t, a, api.Reply{On: a.On, Set: a.Set}, api.ErrField)
		for _, r := range strayLists(1) {
			checks(t, a, r, api.ErrField)
		}
	}
}

func TestCheckCount(t *testing.T) {
	for _, n := range counts(2000) {
		for _, k := range []int{0, 1, n - 8, n - 1, n, n + 1, n + 8, 2 * n, 2000, 2001, n + 65536} {
			if k < 0 {
				continue
			}
			want := map[bool]api.Errno{true: api.OK, false: api.ErrCount}[k == n]
			checks(t, request(1, 0, n), api.Reply{On: make([]bool, k)}, want)
			checks(t, request(2, 9, n), api.Reply{On: make([]bool, k)}, want)
			if n <= 125 {
				checks(t, request(3, 0, n), api.Reply{Set: make([]uint16, k)}, want)
				checks(t, request(4, 9, n), api.Reply{Set: make([]uint16, k)}, want)
			}
		}
	}
}

// lists are lists of words of such lengths.
func lists(lengths ...int) api.Reply {
	r := api.Reply{}
	for _, n := range lengths {
		r.Files = append(r.Files, make([]uint16, n))
	}
	return r
}

func TestCheckFilesCount(t *testing.T) {
	checks(t, files(1), lists(1), api.OK)
	checks(t, files(1), lists(), api.ErrCount)
	checks(t, files(1), lists(0), api.ErrCount)
	checks(t, files(1), lists(2), api.ErrCount)
	checks(t, files(1), lists(1, 0), api.ErrCount)
	checks(t, files(1), lists(1, 1), api.ErrCount)
	checks(t, files(1), api.Reply{Files: [][]uint16{nil}}, api.ErrCount)
	checks(t, files(1), api.Reply{Files: [][]uint16{{1}, nil}}, api.ErrCount)
	checks(t, files(2, 3), lists(2, 3), api.OK)
	checks(t, files(2, 3), lists(3, 2), api.ErrCount)
	checks(t, files(2, 3), lists(5), api.ErrCount)
	checks(t, files(2, 3), lists(2), api.ErrCount)
	checks(t, files(2, 3), lists(0, 5), api.ErrCount)
	checks(t, files(2, 3), lists(2, 3, 0), api.ErrCount)
	checks(t, files(2, 3), lists(0, 2, 3), api.ErrCount)
	checks(t, files(2, 3), lists(2, 3+65536), api.ErrCount)
	for _, a := range rightAsks() {
		for i := range a.Parts {
			r := plain(a, false, 7)
			l := r.Files[i]
			r.Files[i] = l[1:]
			checks(t, a, r, api.ErrCount)
			r.Files[i] = append(slices.Clone(l), 7)
			checks(t, a, r, api.ErrCount)
			r.Files = slices.Delete(plain(a, false, 7).Files, i, i+1)
			checks(t, a, r, api.ErrCount)
			r.Files = slices.Insert(plain(a, false, 7).Files, i, l)
			checks(t, a, r, api.ErrCount)
		}
	}
}

// A list that is empty is one that is nil: it is no stray one, and has nothing.
func TestCheckEmptyLists(t *testing.T) {
	for _, c := range codes() {
		a := request(c, 0, 1)
		r := plain(a, true, 3)
		want := map[bool]api.Errno{true: api.OK, false: api.ErrCount}[isZero(r)]
		checks(t, a, api.Reply{On: []bool{}, Set: []uint16{}, Files: [][]uint16{}}, want)
		if r.On == nil {
			r.On = []bool{}
		}
		if r.Set == nil {
			r.Set = []uint16{}
		}
		if r.Files == nil {
			r.Files = [][]uint16{}
		}
		checks(t, a, r, api.OK)
	}
}

// firstError is what Check must tell of an answer to a right request, rule by rule.
func firstError(a api.Ask, r api.Reply) api.Errno {
	bits, words, parts := a.Code == 1 || a.Code == 2, a.Code == 3 || a.Code == 4, a.Code == 20
	wrongParts := len(r.Files) != len(a.Parts)
	for i := range min(len(r.Files), len(a.Parts)) {
		wrongParts = wrongParts || len(r.Files[i]) != a.Parts[i].Length
	}
	isExc := r.Exc != 0
	for _, rule := range []struct {
		broken bool
		errno  api.Errno
	}{
		{isExc && (r.Exc < 1 || r.Exc > 127), api.ErrRange},
		{isExc && len(r.On)+len(r.Set)+len(r.Files) > 0, api.ErrField},
		{!bits && len(r.On) > 0, api.ErrField},
		{!words && len(r.Set) > 0, api.ErrField},
		{!parts && len(r.Files) > 0, api.ErrField},
		{!isExc && bits && len(r.On) != a.Count, api.ErrCount},
		{!isExc && words && len(r.Set) != a.Count, api.ErrCount},
		{!isExc && parts && wrongParts, api.ErrCount},
	} {
		if rule.broken {
			return rule.errno
		}
	}
	return api.OK
}

// someReply is an answer to a right request that is right or wrong in some places.
func someReply(r *rand.Rand, a api.Ask) api.Reply {
	x := answer(r, a)
	if r.Intn(4) == 0 {
		x = answer(r, request(codes()[r.Intn(9)], 1, 1))
	}
	if r.Intn(4) == 0 {
		x.Exc = []int{1, 2, 127, 128, 255, -1, r.Intn(300)}[r.Intn(7)]
	}
	if r.Intn(4) == 0 {
		x.On = bitsOf(r, r.Intn(10))
	}
	if r.Intn(4) == 0 {
		x.Set = wordsOf(r, r.Intn(10))
	}
	if r.Intn(4) == 0 && len(x.Files) > 0 {
		i := r.Intn(len(x.Files))
		x.Files[i] = wordsOf(r, r.Intn(4))
	}
	if r.Intn(6) == 0 {
		x = api.Reply{Exc: x.Exc}
	}
	return x
}

func TestCheckSample(t *testing.T) {
	r := rand.New(rand.NewSource(2))
	right := rightAsks()
	seen := map[api.Errno]int{}
	for range 40000 {
		a := right[r.Intn(len(right))]
		x := someReply(r, a)
		want := firstError(a, x)
		seen[want]++
		checks(t, a, x, want)
	}
	for _, e := range []api.Errno{api.OK, api.ErrRange, api.ErrField, api.ErrCount} {
		if seen[e] < 500 {
			t.Errorf("the sample has only %d answers for %d", seen[e], e)
		}
	}
}

// P4.2

// form is the PDU of a right answer to a right request, as the chapter's table writes it.
func form(a api.Ask, r api.Reply) []byte {
	if r.Exc != 0 {
		return []byte{byte(a.Code) | 0x80, byte(r.Exc)}
	}
	two := binary.BigEndian.AppendUint16
	b := []byte{byte(a.Code), 0}
	switch a.Code {
	case 1, 2:
		b = append(b, make([]byte, (len(r.On)+7)/8)...)
		for i, on := range r.On {
			if on {
				b[2+i/8] += 1 << (i % 8)
			}
		}
	case 3, 4:
		for _, w := range r.Set {
			b = two(b, w)
		}
	case 20:
		for _, l := range r.Files {
			b = append(b, byte(1+2*len(l)), 6)
			for _, w := range l {
				b = two(b, w)
			}
		}
	default:
		whole, _ := ask.Put(a)
		return whole[:5]
	}
	b[1] = byte(len(b) - 2)
	return b
}

// example is a request, an answer to it and that one's PDU.
type example struct {
	a api.Ask
	r api.Reply
	b string
}

func examples() []example {
	ten, two := api.Ask{Code: 1, Addr: 5, Count: 10}, api.Ask{Code: 3, Count: 2}
	one := slices.Concat([]bool{true}, make([]bool, 9))
	return []example{
		{ten, api.Reply{On: one}, "\x01\x02\x01\x00"},
		{ten, api.Reply{On: slices.Repeat([]bool{true}, 10)}, "\x01\x02\xff\x03"},
		{api.Ask{Code: 2, Addr: 9, Count: 8}, api.Reply{On: []bool{false, true, false, false, false, false, false, true}}, "\x02\x01\x82"},
		{two, api.Reply{Set: []uint16{1, 512}}, "\x03\x04\x00\x01\x02\x00"},
		{two, api.Reply{Exc: 2}, "\x83\x02"},
		{api.Ask{Code: 4, Addr: 9, Count: 1}, api.Reply{Set: []uint16{0x1234}}, "\x04\x02\x12\x34"},
		{api.Ask{Code: 5, Addr: 172, On: []bool{true}}, api.Reply{}, "\x05\x00\xac\xff\x00"},
		{api.Ask{Code: 5, Addr: 172, On: []bool{false}}, api.Reply{}, "\x05\x00\xac\x00\x00"},
		{api.Ask{Code: 5, Addr: 172, On: []bool{true}}, api.Reply{Exc: 127}, "\x85\x7f"},
		{api.Ask{Code: 6, Addr: 7, Set: []uint16{9}}, api.Reply{}, "\x06\x00\x07\x00\x09"},
		{api.Ask{Code: 15, Addr: 19, On: one}, api.Reply{}, "\x0f\x00\x13\x00\x0a"},
		{api.Ask{Code: 15, Addr: 19, On: one}, api.Reply{Exc: 4}, "\x8f\x04"},
		{api.Ask{Code: 16, Addr: 7, Set: []uint16{9, 9}}, api.Reply{}, "\x10\x00\x07\x00\x02"},
		{api.Ask{Code: 16, Addr: 7, Set: []uint16{9, 9}}, api.Reply{Exc: 6}, "\x90\x06"},
		{files(1), api.Reply{Files: [][]uint16{{5}}}, "\x14\x04\x03\x06\x00\x05"},
		{files(2, 1), api.Reply{Files: [][]uint16{{0x0DFE, 0x0020}, {0x33CD}}}, "\x14\x0a\x05\x06\x0d\xfe\x00\x20\x03\x06\x33\xcd"},
		{files(2, 1), api.Reply{Exc: 1}, "\x94\x01"},
	}
}

func TestPutExamples(t *testing.T) {
	for _, x := range examples() {
		if b, errno := reply.Put(x.a, x.r); string(b) != x.b || errno != api.OK {
			t.Errorf("Put of %+v to %+v: % x, %d", x.r, x.a, b, errno)
		}
	}
}

// puts sees that Put makes the form.
func puts(t *testing.T, a api.Ask, r api.Reply) {
	t.Helper()
	if b, errno := reply.Put(a, r); !bytes.Equal(b, form(a, r)) || errno != api.OK {
		t.Fatalf("Put of %+v to %+v: % x, %d, not % x", r, a, b, errno, form(a, r))
	}
}

func TestPut(t *testing.T) {
	for _, a := range rightAsks() {
		for _, r := range rightReplies(a) {
			puts(t, a, r)
		}
	}
}

func TestPutEveryCount(t *testing.T) {
	r := rand.New(rand.NewSource(4))
	for _, c := range codes() {
		for n := 1; n <= most(c); n++ {
			a := request(c, 77, n)
			puts(t, a, answer(r, a))
		}
	}
	for n := 1; n <= 121; n++ {
		puts(t, files(n), answer(r, files(n)))
	}
}

func TestPutEveryException(t *testing.T) {
	for _, c := range codes() {
		for n := 1; n <= 127; n++ {
			puts(t, request(c, 77, most(c)), api.Reply{Exc: n})
		}
	}
}

// Each bit, and each word, stands in its own place.
func TestPutEveryPlace(t *testing.T) {
	for i := range 2000 {
		a := request(1, 0, 2000)
		r := plain(a, false, 0)
		r.On[i] = true
		puts(t, a, r)
	}
	for i := range 125 {
		a := request(4, 0, 125)
		r := plain(a, false, 0)
		r.Set[i] = 0x8001
		puts(t, a, r)
	}
}

// P4.3

// gets sees that Get tells an error, and nothing beside it.
func gets(t *testing.T, a api.Ask, b string, want api.Errno) {
	t.Helper()
	if r, errno := reply.Get(a, []byte(b)); errno != want || want != api.OK && !isZero(r) {
		t.Errorf("Get of % x to %+v: %+v, %d, not %d", b, a, r, errno, want)
	}
}

// getsAnswer sees that Get takes an answer.
func getsAnswer(t *testing.T, a api.Ask, b []byte, want api.Reply) {
	t.Helper()
	if r, errno := reply.Get(a, b); !same(r, want) || errno != api.OK {
		t.Fatalf("Get of % x to %+v: %+v, %d, not %+v", b, a, r, errno, want)
	}
}

func TestGetExamples(t *testing.T) {
	for _, x := range examples() {
		getsAnswer(t, x.a, []byte(x.b), x.r)
	}
	two := api.Ask{Code: 3, Count: 2}
	gets(t, two, "\x03\x04\x00\x01\x02", api.ErrShort)
	gets(t, two, "\x03\x03\x00\x01\x02\x00", api.ErrForm)
	gets(t, two, "\x04", api.ErrCode)
	gets(t, two, "\x83", api.ErrShort)
	gets(t, two, "\x83\x00", api.ErrRange)
	gets(t, two, "\x83\x02\x00", api.ErrLong)
	gets(t, api.Ask{Code: 1, Addr: 5, Count: 10}, "\x01\x02\x01\x04", api.ErrForm)
}

func TestGet(t *testing.T) {
	for _, a := range rightAsks() {
		for _, r := range rightReplies(a) {
			getsAnswer(t, a, form(a, r), r)
		}
	}
}

// What ask.Check has against the request is ahead of all that is wrong with the bytes.
func TestGetCheckOfAskIsFirst(t *testing.T) {
	for _, a := range wrongAsks() {
		want := ask.Check(a)
		code := string([]byte{byte(a.Code)})
		exc := string([]byte{byte(a.Code) | 0x80})
		for _, b := range []string{"", code, code + "\x02\x00\x00", code + "\x01\x00\x00\x00\x00\x00\x00", "\x00", "\x07\x00", exc, exc + "\x00", exc + "\x01", exc + "\x01\x00"} {
			gets(t, a, b, want)
		}
		if r, errno := reply.Get(a, nil); !isZero(r) || errno != want {
			t.Errorf("Get of nothing to %+v: %+v, %d", a, r, errno)
		}
	}
}

func TestGetNothing(t *testing.T) {
	for _, a := range rightAsks() {
		gets(t, a, "", api.ErrShort)
		if r, errno := reply.Get(a, nil); !isZero(r) || errno != api.ErrShort {
			t.Errorf("Get of nothing to %+v: %+v, %d", a, r, errno)
		}
	}
}

func TestGetException(t *testing.T) {
	for _, c := range codes() {
		for _, n := range []int{1, most(c)} {
			a := request(c, 9, n)
			head := string([]byte{byte(c + 128)})
			gets(t, a, head, api.ErrShort)
			for k := range 256 {
				b := head + string([]byte{byte(k)})
				if k >= 1 && k <= 127 {
					getsAnswer(t, a, []byte(b), api.Reply{Exc: k})
				} else {
					gets(t, a, b, api.ErrRange)
				}
				// ErrLong is ahead of ErrRange.
				for _, more := range []string{"\x00", "\x01", b, string(make([]byte, 300)), string(form(a, plain(a, true, 1))[2:])} {
					gets(t, a, b+more, api.ErrLong)
				}
			}
		}
	}
}

// That the first byte is another code is ahead of any length.
func TestGetCode(t *testing.T) {
	for _, c := range codes() {
		a := request(c, 9, 1)
		right := form(a, plain(a, true, 1))
		for k := range 256 {
			if k == c || k == c+128 {
				continue
			}
			wrong := bytes.Clone(right)
			wrong[0] = byte(k)
			for n := 1; n <= len(wrong); n++ {
				gets(t, a, string(wrong[:n]), api.ErrCode)
			}
			gets(t, a, string(wrong)+"\x00", api.ErrCode)
			gets(t, a, string([]byte{byte(k), 0}), api.ErrCode)
			gets(t, a, string([]byte{byte(k), 200}), api.ErrCode)
			gets(t, a, string([]byte{byte(k)})+string(make([]byte, 300)), api.ErrCode)
		}
	}
}

// size is how many bytes all answers to a right request have that are no exceptions.
func size(a api.Ask) int { return len(form(a, plain(a, false, 0))) }

// A wrong length is ahead of a wrong form, whatever the bytes say that follows.
func TestGetLength(t *testing.T) {
	for _, a := range rightAsks() {
		n := size(a)
		for _, fillWith := range []byte{0, 1, 6, 0xFF} {
			whole := bytes.Repeat([]byte{fillWith}, n+300)
			whole[0] = byte(a.Code)
			for _, k := range []int{1, 2, 3, 4, 5, 6, n - 7, n - 3, n - 2, n - 1, n + 1, n + 2, n + 3, n + 7, n + 8, n + 256, n + 300} {
				if k >= 1 && k < n {
					gets(t, a, string(whole[:k]), api.ErrShort)
				} else if k > n {
					gets(t, a, string(whole[:k]), api.ErrLong)
				}
				if k >= 2 && k != n {
					whole[1] = byte(k - 2)
					gets(t, a, string(whole[:k]), map[bool]api.Errno{true: api.ErrShort, false: api.ErrLong}[k < n])
					whole[1] = fillWith
				}
			}
		}
	}
}

// The byte that says how many follow is right in but one way.
func TestGetCountedForm(t *testing.T) {
	for _, a := range rightAsks() {
		if ask.Writes(a) {
			continue
		}
		r := plain(a, true, 0x0106)
		b := form(a, r)
		right := int(b[1])
		for n := range 256 {
			b[1] = byte(n)
			if n == right {
				getsAnswer(t, a, b, r)
			} else {
				gets(t, a, string(b), api.ErrForm)
			}
		}
	}
}

// Each spare bit alone is seen; each bit that is none is not held against it.
func TestGetSpareBits(t *testing.T) {
	for _, n := range append(counts(2000), 11, 12, 13, 14, 18, 19, 1994, 1995, 1996, 1997, 1998) {
		for _, code := range []int{1, 2} {
			a := request(code, 0, n)
			r := answer(rand.New(rand.NewSource(int64(n))), a)
			b := form(a, r)
			for i := range 8 * (len(b) - 2) {
				if i < n-20 && i > 20 {
					continue
				}
				turned := bytes.Clone(b)
				turned[2+i/8] ^= 1 << (i % 8)
				if i >= n {
					gets(t, a, string(turned), api.ErrForm)
					continue
				}
				want := api.Reply{On: slices.Clone(r.On)}
				want.On[i] = !want.On[i]
				getsAnswer(t, a, turned, want)
			}
		}
	}
}

// No bit of what a write answers may be another one.
func TestGetEcho(t *testing.T) {
	for _, a := range rightAsks() {
		if !ask.Writes(a) {
			continue
		}
		b := form(a, api.Reply{})
		getsAnswer(t, a, b, api.Reply{})
		for i := range 8 * 4 {
			turned := bytes.Clone(b)
			turned[1+i/8] ^= 1 << (i % 8)
			gets(t, a, string(turned), api.ErrForm)
		}
	}
}

// What follows the first five bytes of 15 and 16 in the request does not in the answer.
func TestGetWholeRequest(t *testing.T) {
	for _, a := range rightAsks() {
		if a.Code == 15 || a.Code == 16 {
			whole, _ := ask.Put(a)
			gets(t, a, string(whole), api.ErrLong)
			gets(t, a, string(whole[:6]), api.ErrLong)
			gets(t, a, string(whole[:4]), api.ErrShort)
		}
	}
}

// Each part's two bytes are right in but one way.
func TestGetPartsForm(t *testing.T) {
	for _, a := range []api.Ask{files(1), files(121), files(2, 1, 3), files(3, 1, 2), files(slices.Repeat([]int{2}, 35)...)} {
		r := plain(a, true, 0x0506)
		b := form(a, r)
		at := 2
		for _, p := range a.Parts {
			for _, place := range []int{at, at + 1} {
				for v := range 256 {
					wrong := bytes.Clone(b)
					wrong[place] = byte(v)
					if wrong[place] == b[place] {
						getsAnswer(t, a, wrong, r)
					} else {
						gets(t, a, string(wrong), api.ErrForm)
					}
				}
			}
			at += 2 + 2*p.Length
		}
	}
}

// Parts that are as long in all as those asked for, but another way.
func TestGetOtherParts(t *testing.T) {
	for _, x := range []struct{ a, other api.Ask }{
		{files(1, 2), files(2, 1)},
		{files(4), files(1, 2)},
		{files(1, 2), files(4)},
		{files(1, 1, 1), files(1, 3)},
		{files(2, 2), files(1, 3)},
	} {
		b := form(x.other, plain(x.other, false, 9))
		if len(b) != size(x.a) {
			t.Fatalf("% x is no answer as long as those to %+v", b, x.a)
		}
		gets(t, x.a, string(b), api.ErrForm)
		getsAnswer(t, x.other, b, plain(x.other, false, 9))
	}
}

// said is what Get must tell of bytes to a right request, step by step, with a reader of its own.
func said(a api.Ask, b []byte) (api.Reply, api.Errno) {
	none := api.Reply{}
	if len(b) == 0 {
		return none, api.ErrShort
	}
	if b[0] == byte(a.Code)+128 {
		switch {
		case len(b) < 2:
			return none, api.ErrShort
		case len(b) > 2:
			return none, api.ErrLong
		case b[1] == 0 || b[1] > 127:
			return none, api.ErrRange
		}
		return api.Reply{Exc: int(b[1])}, api.OK
	}
	if b[0] != byte(a.Code) {
		return none, api.ErrCode
	}
	if n := size(a); len(b) != n {
		return none, map[bool]api.Errno{true: api.ErrShort, false: api.ErrLong}[len(b) < n]
	}
	// The one answer that the bytes may be is read without asking them anything; then its form must be those bytes.
	r := plain(a, false, 0)
	for i := range r.On {
		r.On[i] = b[2+i/8]>>(i%8)&1 == 1
	}
	for i := range r.Set {
		r.Set[i] = binary.BigEndian.Uint16(b[2+2*i:])
	}
	at := 2
	for _, l := range r.Files {
		at += 2
		for i := range l {
			l[i] = binary.BigEndian.Uint16(b[at:])
			at += 2
		}
	}
	if !bytes.Equal(form(a, r), b) {
		return none, api.ErrForm
	}
	return r, api.OK
}

// row is a right request, and bytes that came for an answer.
type row struct {
	a api.Ask
	b []byte
}

// spoilt are answers to right requests, some of them changed in some places, some to another request, and bytes that never were one.
func spoilt(n int) []row {
	r := rand.New(rand.NewSource(3))
	right := rightAsks()
	replies := make([][]api.Reply, len(right))
	for i, a := range right {
		replies[i] = rightReplies(a)
	}
	var out []row
	for k := range n {
		i := r.Intn(len(right))
		a := right[i]
		b := form(a, replies[i][r.Intn(len(replies[i]))])
		switch {
		case k%10 == 0:
			b = make([]byte, r.Intn(12))
			r.Read(b)
			if len(b) > 0 {
				b[0] = byte(a.Code + 128*r.Intn(2))
			}
		case k%10 == 1:
			other := right[r.Intn(len(right))]
			b = form(other, answer(r, other))
		}
		for range r.Intn(3) {
			if len(b) > 0 {
				at := r.Intn(min(len(b), 1+r.Intn(300)))
				b[at] = []byte{0, 1, 6, 7, 0x80, 0xFF, b[at] + 1, b[at] - 1, byte(r.Intn(256))}[r.Intn(9)]
			}
		}
		if r.Intn(8) == 0 {
			b = b[:r.Intn(len(b)+1)]
		}
		if r.Intn(12) == 0 {
			b = append(b, byte(r.Intn(256)))
		}
		out = append(out, row{a, b})
	}
	return out
}

func TestGetSample(t *testing.T) {
	seen := map[api.Errno]int{}
	for _, x := range spoilt(40000) {
		want, errno := said(x.a, x.b)
		seen[errno]++
		if r, e := reply.Get(x.a, x.b); e != errno || !same(r, want) {
			t.Fatalf("Get of % x to %+v: %+v, %d, not %+v, %d", x.b, x.a, r, e, want, errno)
		}
	}
	for _, e := range []api.Errno{api.OK, api.ErrShort, api.ErrLong, api.ErrCode, api.ErrForm, api.ErrRange} {
		if seen[e] < 200 {
			t.Errorf("the sample has only %d rows for %d", seen[e], e)
		}
	}
}

// What lies behind a list's end is not part of it.
func TestGetDoesNotReadTheSpareRoom(t *testing.T) {
	for _, x := range examples() {
		whole := []byte(x.b)
		for n := range x.b {
			if r, errno := reply.Get(x.a, whole[:n]); !isZero(r) || errno != api.ErrShort {
				t.Errorf("Get of % x: %+v, %d", whole[:n], r, errno)
			}
		}
		long := append(whole, whole...)
		getsAnswer(t, x.a, long[:len(x.b)], x.r)
	}
}

// P4.4

// comesBack sees that an answer is what Get makes of its form, which is not too long.
func comesBack(t *testing.T, a api.Ask, r api.Reply) {
	t.Helper()
	b, errno := reply.Put(a, r)
	if errno != api.OK || len(b) > api.MaxPdu {
		t.Fatalf("Put of %+v to %+v: %d bytes, %d", r, a, len(b), errno)
	}
	getsAnswer(t, a, b, r)
}

func TestGetOfPut(t *testing.T) {
	for _, a := range rightAsks() {
		for _, r := range rightReplies(a) {
			comesBack(t, a, r)
		}
	}
}

func TestGetOfPutEveryCount(t *testing.T) {
	r := rand.New(rand.NewSource(5))
	for _, c := range codes() {
		for n := 1; n <= most(c); n++ {
			a := request(c, 65536-n, n)
			comesBack(t, a, answer(r, a))
			comesBack(t, a, api.Reply{Exc: 1 + n%127})
		}
	}
	for n := 1; n <= 121; n++ {
		comesBack(t, files(n), answer(r, files(n)))
	}
}

// The longest answers that there are: of bits, of words, of one part and of many.
func TestLongestForms(t *testing.T) {
	many := slices.Repeat([]int{2}, 35)
	for i := range 17 {
		many[i]++
	}
	for _, x := range []struct {
		a api.Ask
		n int
	}{{request(1, 0, 2000), 252}, {request(2, 0, 2000), 252}, {request(3, 0, 125), 252}, {request(4, 0, 125), 252}, {files(121), 246}, {files(many...), 246}, {request(15, 0, 1968), 5}, {request(16, 0, 123), 5}} {
		b, errno := reply.Put(x.a, plain(x.a, true, 0xFFFF))
		if len(b) != x.n || len(b) > api.MaxPdu || errno != api.OK {
			t.Errorf("to %+v: %d bytes, %d", x.a, len(b), errno)
		}
	}
}

func TestPutOfGet(t *testing.T) {
	told := 0
	for _, x := range spoilt(40000) {
		r, errno := reply.Get(x.a, x.b)
		if errno != api.OK {
			continue
		}
		told++
		if b, e := reply.Put(x.a, r); !bytes.Equal(b, x.b) || e != api.OK {
			t.Fatalf("% x to %+v comes back as % x, %d", x.b, x.a, b, e)
		}
	}
	if told < 2000 {
		t.Errorf("the sample has only %d answers", told)
	}
}

// Of all that two bytes may say to a request for few bits, what Get takes is what Put makes, each once.
func TestEveryRowOfFewBits(t *testing.T) {
	for n := 1; n <= 16; n++ {
		a := request(1, 0, n)
		taken := 0
		for v := range 1 << 16 {
			b := []byte{1, 2, byte(v), byte(v >> 8)}
			if n <= 8 {
				if b = []byte{1, 1, byte(v)}; v > 255 {
					break
				}
			}
			r, errno := reply.Get(a, b)
			if errno != api.OK {
				continue
			}
			taken++
			if back, e := reply.Put(a, r); !bytes.Equal(back, b) || e != api.OK {
				t.Fatalf("% x comes back as % x, %d", b, back, e)
			}
		}
		if taken != 1<<n {
			t.Errorf("%d rows are answers of %d bits", taken, n)
		}
	}
}

// P4.5

func TestBeginningsAndMore(t *testing.T) {
	for _, a := range rightAsks() {
		for i, r := range rightReplies(a) {
			b, _ := reply.Put(a, r)
			for n := range len(b) {
				if i < 2 || n < 12 || n > len(b)-12 {
					gets(t, a, string(b[:n]), api.ErrShort)
				}
			}
			for _, more := range []byte{0, 1, 6, 0x80, 0xFF, b[0], b[len(b)-1]} {
				gets(t, a, string(b)+string([]byte{more}), api.ErrLong)
			}
		}
	}
}

func TestEveryByteBehind(t *testing.T) {
	for _, x := range examples() {
		for v := range 256 {
			gets(t, x.a, x.b+string([]byte{byte(v)}), api.ErrLong)
		}
		for n := range len(x.b) {
			gets(t, x.a, x.b[:n], api.ErrShort)
		}
	}
}

// R3

// roomy is a list with spare room behind its end that is filled, and all of that.
func roomy[T any](l []T, spare T) ([]T, []T) {
	whole := append(slices.Clone(l), slices.Repeat([]T{spare}, 16)...)
	return whole[:len(l)], whole
}

// fill writes over a list and all its spare room.
func fill[T any](l []T, v T) {
	l = l[:cap(l)]
	for i := range l {
		l[i] = v
	}
}

// watched is a request and an answer with spare room behind their lists' ends, and all of what those lie in.
type watched struct {
	a        api.Ask
	r        api.Reply
	on, bits []bool
	words    [][]uint16
	parts    []api.Part
	files    [][]uint16
}

func watch(a api.Ask, r api.Reply) *watched {
	w := &watched{a: a, r: r}
	w.a.On, w.on = roomy(a.On, true)
	w.r.On, w.bits = roomy(r.On, true)
	w.a.Parts, w.parts = roomy(a.Parts, api.Part{File: 9, Record: 9, Length: 9})
	words := func(l []uint16) []uint16 {
		in, whole := roomy(l, 0xA5A5)
		w.words = append(w.words, whole)
		return in
	}
	w.a.Set, w.r.Set = words(a.Set), words(r.Set)
	w.r.Files, w.files = roomy(r.Files, []uint16{0xA5A5})
	for i, l := range r.Files {
		w.r.Files[i] = words(l)
	}
	return w
}

// state is all that is watched, in memory of its own.
func (w *watched) state() watched {
	out := watched{on: slices.Clone(w.on), bits: slices.Clone(w.bits), parts: slices.Clone(w.parts)}
	for _, l := range w.words {
		out.words = append(out.words, slices.Clone(l))
	}
	for _, l := range w.files {
		out.files = append(out.files, slices.Clone(l))
	}
	return out
}

// is says whether all that is watched is as it was.
func (w *watched) is(was watched) bool {
	return slices.Equal(w.on, was.on) && slices.Equal(w.bits, was.bits) && slices.Equal(w.parts, was.parts) && sameFiles(w.words, was.words) && sameFiles(w.files, was.files)
}

// spoil writes over all that is watched.
func (w *watched) spoil() {
	fill(w.on, false)
	fill(w.bits, false)
	fill(w.parts, api.Part{})
	for _, l := range w.words {
		fill(l, 0x3C3C)
	}
	fill(w.files, nil)
}

// asksOfMemory are requests right and wrong.
func asksOfMemory() []api.Ask { return append(rightAsks(), wrongAsks()...) }

func TestMemoryOfPut(t *testing.T) {
	r := rand.New(rand.NewSource(6))
	for _, a := range asksOfMemory() {
		replies := []api.Reply{{Exc: 3}, {On: []bool{true}, Set: []uint16{1}, Files: [][]uint16{{1, 2}}}}
		if ask.Check(a) == api.OK {
			replies = append(replies, plain(a, true, 0x0102), someReply(r, a), someReply(r, a))
		}
		for _, x := range replies {
			w := watch(a, x)
			was := w.state()
			one, errno := reply.Put(w.a, w.r)
			two, _ := reply.Put(w.a, w.r)
			if e := reply.Check(w.a, w.r); e != errno || !w.is(was) {
				t.Fatalf("what was handed in, %+v and %+v, was changed", a, x)
			}
			before := slices.Clone(two)
			fill(one, 0x3C)
			if !slices.Equal(two, before) || !w.is(was) {
				t.Fatalf("Put of %+v to %+v hands out shared memory", x, a)
			}
			three, _ := reply.Put(w.a, w.r)
			w.spoil()
			if !slices.Equal(two, before) || !slices.Equal(three, before) {
				t.Fatalf("Put of %+v to %+v keeps what was handed in, or out", x, a)
			}
		}
	}
}

// spoilReply writes over the lists of an answer, one after the other, each seen to share nothing with those behind it.
func spoilReply(t *testing.T, r api.Reply) {
	t.Helper()
	fill(r.On, true)
	fill(r.On, false)
	fill(r.Set, 0x3C3C)
	for i, l := range r.Files {
		var before [][]uint16
		for _, k := range r.Files[i+1:] {
			before = append(before, slices.Clone(k))
		}
		fill(l, 0x3C3C)
		if !sameFiles(r.Files[i+1:], before) {
			t.Fatalf("two lists of one answer share memory: %+v", r)
		}
	}
	fill(r.Files, nil)
}

func TestMemoryOfGet(t *testing.T) {
	rows := spoilt(2000)
	for _, a := range rightAsks() {
		rows = append(rows, row{a, form(a, plain(a, true, 0x0102))})
	}
	for _, x := range rows {
		w := watch(x.a, api.Reply{})
		was := w.state()
		in, whole := roomy(x.b, 0xA5)
		before := slices.Clone(whole)
		unchanged := func() bool { return slices.Equal(whole, before) && w.is(was) }
		want, errno := said(x.a, x.b)
		one, e := reply.Get(w.a, in)
		two, _ := reply.Get(w.a, in)
		if e != errno || !unchanged() {
			t.Fatalf("what was handed in, % x and %+v, was changed", x.b, x.a)
		}
		spoilReply(t, one)
		if !same(two, want) || !unchanged() {
			t.Fatalf("Get of % x to %+v hands out shared memory", x.b, x.a)
		}
		three, _ := reply.Get(w.a, in)
		fill(whole, 0x3C)
		w.spoil()
		if !same(two, want) || !same(three, want) {
			t.Fatalf("Get of % x to %+v keeps what was handed in, or out", x.b, x.a)
		}
	}
}
